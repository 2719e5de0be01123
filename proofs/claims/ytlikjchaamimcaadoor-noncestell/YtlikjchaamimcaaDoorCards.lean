/-
  DERIVED. GIVEN WITH THE SEED: THE CARDS: each row of YtlikjchaamimcaaDoorRows.lean that lists a variable, with what it lists TIED to the program's text (the seventh form; the later family's looks); each row that meets fmt, with fmt's text TOLD by the authors' own Lean function (tested against real Go, not proved from fmt's source: count such statements apart). THE CARD IS WHAT COUNTS. Prove the row's statement (the work); the ties are given (YtlikjchaamimcaaDoorTie.lean); close each card by the builder's one call (the guide's Derived/Test/ToyasCard.lean, 'card_holds'). Laid BY PROGRAM, IN A SANDBOX (cutbox-door.mjs). By AI agents, Wed Nov 11 2026. No macro, syntax, notation, axiom, sorry.
-/
import Derived.Test.YtlikjchaamimcaaDoorRows
import GoSem.ClaimSeven
namespace Go.Proofs.YtlikjchaamimcaaDoor
namespace Rows

/-- THE TIED CARD OF 'chatelainelaw18.NoncesTell'. -/
def noncesTellCard : Claim7 := { stood := { row := noncesTellRow, standIns := [], harness := (true, "3dc1f2f23bee78fe3b8a25d811bb937887119f8c1cf6a48c230deacb0dd62bd5"), looks := true }, kinds := [], alts := [], laidByText := true, laidKinds := [.handle], laidTests := true, laidLooks := .later }
def NoncesTellCardSaid : Prop := Claim7.holds Tryd.pinned (.plain (OpenSpec.ofChange noncesTellSpec)) noncesTellCard

/-- THE TIED CARD OF 'chatelainelaw18.NoncesOnce'. -/
def noncesOnceCard : Claim7 := { stood := { row := noncesOnceRow, standIns := [], harness := (true, "3dc1f2f23bee78fe3b8a25d811bb937887119f8c1cf6a48c230deacb0dd62bd5"), looks := true }, kinds := [], alts := [], laidByText := true, laidKinds := [.handle], laidTests := true, laidLooks := .later }
def NoncesOnceCardSaid : Prop := Claim7.holds Tryd.pinned (.plain (OpenSpec.ofChange noncesOnceSpec)) noncesOnceCard

/-- THE TIED CARD OF 'chatelainelaw18.NoncesTurn'. -/
def noncesTurnCard : Claim7 := { stood := { row := noncesTurnRow, standIns := [], harness := (true, "3dc1f2f23bee78fe3b8a25d811bb937887119f8c1cf6a48c230deacb0dd62bd5"), looks := true }, kinds := [], alts := [], laidByText := true, laidKinds := [.handle], laidTests := true, laidLooks := .later }
def NoncesTurnCardSaid : Prop := Claim7.holds Tryd.pinned (.plain (OpenSpec.ofChange noncesTurnSpec)) noncesTurnCard

/-- THE TIED CARD OF 'chatelainelaw18.NoncesWindow'. -/
def noncesWindowCard : Claim7 := { stood := { row := noncesWindowRow, standIns := [], harness := (true, "3dc1f2f23bee78fe3b8a25d811bb937887119f8c1cf6a48c230deacb0dd62bd5"), looks := true }, kinds := [], alts := [], laidByText := true, laidKinds := [.handle], laidTests := true, laidLooks := .later }
def NoncesWindowCardSaid : Prop := Claim7.holds Tryd.pinned (.plain (OpenSpec.ofChange noncesWindowSpec)) noncesWindowCard

/-- THE TIED CARD OF 'chatelainelaw18.NoncesRow'. -/
def noncesRowCard : Claim7 := { stood := { row := noncesRowRow, standIns := [], harness := (true, "3dc1f2f23bee78fe3b8a25d811bb937887119f8c1cf6a48c230deacb0dd62bd5"), looks := true }, kinds := [], alts := [], laidByText := true, laidKinds := [.handle], laidTests := true, laidLooks := .later }
def NoncesRowCardSaid : Prop := Claim7.holds Tryd.pinned (.plain (OpenSpec.ofChange noncesRowSpec)) noncesRowCard

/-- THE SECOND FORM's CARD OF 'chatelainelaw18.NoncesTell'. -/
def noncesTellUptoCard : Claim7 := { stood := { row := noncesTellUptoRow, standIns := [], harness := (true, "3dc1f2f23bee78fe3b8a25d811bb937887119f8c1cf6a48c230deacb0dd62bd5"), looks := true }, kinds := [], alts := [], laidByText := true, laidKinds := [.handle], laidTests := true, laidLooks := .later }
def NoncesTellUptoCardSaid : Prop := Claim7.holds Tryd.pinned (.plain (OpenSpec.upto noncesTellSpec)) noncesTellUptoCard

/-- THE SECOND FORM's CARD OF 'chatelainelaw18.NoncesOnce'. -/
def noncesOnceUptoCard : Claim7 := { stood := { row := noncesOnceUptoRow, standIns := [], harness := (true, "3dc1f2f23bee78fe3b8a25d811bb937887119f8c1cf6a48c230deacb0dd62bd5"), looks := true }, kinds := [], alts := [], laidByText := true, laidKinds := [.handle], laidTests := true, laidLooks := .later }
def NoncesOnceUptoCardSaid : Prop := Claim7.holds Tryd.pinned (.plain (OpenSpec.upto noncesOnceSpec)) noncesOnceUptoCard

/-- THE SECOND FORM's CARD OF 'chatelainelaw18.NoncesTurn'. -/
def noncesTurnUptoCard : Claim7 := { stood := { row := noncesTurnUptoRow, standIns := [], harness := (true, "3dc1f2f23bee78fe3b8a25d811bb937887119f8c1cf6a48c230deacb0dd62bd5"), looks := true }, kinds := [], alts := [], laidByText := true, laidKinds := [.handle], laidTests := true, laidLooks := .later }
def NoncesTurnUptoCardSaid : Prop := Claim7.holds Tryd.pinned (.plain (OpenSpec.upto noncesTurnSpec)) noncesTurnUptoCard

/-- THE SECOND FORM's CARD OF 'chatelainelaw18.NoncesWindow'. -/
def noncesWindowUptoCard : Claim7 := { stood := { row := noncesWindowUptoRow, standIns := [], harness := (true, "3dc1f2f23bee78fe3b8a25d811bb937887119f8c1cf6a48c230deacb0dd62bd5"), looks := true }, kinds := [], alts := [], laidByText := true, laidKinds := [.handle], laidTests := true, laidLooks := .later }
def NoncesWindowUptoCardSaid : Prop := Claim7.holds Tryd.pinned (.plain (OpenSpec.upto noncesWindowSpec)) noncesWindowUptoCard

/-- THE SECOND FORM's CARD OF 'chatelainelaw18.NoncesRow'. -/
def noncesRowUptoCard : Claim7 := { stood := { row := noncesRowUptoRow, standIns := [], harness := (true, "3dc1f2f23bee78fe3b8a25d811bb937887119f8c1cf6a48c230deacb0dd62bd5"), looks := true }, kinds := [], alts := [], laidByText := true, laidKinds := [.handle], laidTests := true, laidLooks := .later }
def NoncesRowUptoCardSaid : Prop := Claim7.holds Tryd.pinned (.plain (OpenSpec.upto noncesRowSpec)) noncesRowUptoCard
end Rows
end Go.Proofs.YtlikjchaamimcaaDoor
