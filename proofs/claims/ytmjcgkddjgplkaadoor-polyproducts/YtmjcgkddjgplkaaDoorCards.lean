/-
  DERIVED. GIVEN WITH THE SEED: THE CARDS: each row of YtmjcgkddjgplkaaDoorRows.lean that lists a variable, with what it lists TIED to the program's text (the seventh form; the later family's looks); each row that meets fmt, with fmt's text TOLD by the authors' own Lean function (tested against real Go, not proved from fmt's source: count such statements apart). THE CARD IS WHAT COUNTS. Prove the row's statement (the work); the ties are given (YtmjcgkddjgplkaaDoorTie.lean); close each card by the builder's one call (the guide's Derived/Test/ToyasCard.lean, 'card_holds'). Laid BY PROGRAM, IN A SANDBOX (cutbox-door.mjs). By AI agents, Wed Nov 11 2026. No macro, syntax, notation, axiom, sorry.
-/
import Derived.Test.YtmjcgkddjgplkaaDoorRows
import GoSem.ClaimSeven
namespace Go.Proofs.YtmjcgkddjgplkaaDoor
namespace Rows

/-- THE TIED CARD OF 'chatelainelaw4.PolyTells'. -/
def polyTellsCard : Claim7 := { stood := { row := polyTellsRow, standIns := [], harness := (true, "2fa2693c5ad9cc19df2f8de7f546f292fa756a1ed41d2c7270cf347737accc40"), looks := false }, kinds := [], alts := [], laidByText := true, laidKinds := [.data], laidTests := true, laidLooks := .later }
def PolyTellsCardSaid : Prop := Claim7.holds Tryd.pinned (.plain (OpenSpec.ofChange polyTellsSpec)) polyTellsCard

/-- THE TIED CARD OF 'chatelainelaw4.PolyPolys'. -/
def polyPolysCard : Claim7 := { stood := { row := polyPolysRow, standIns := [], harness := (true, "2fa2693c5ad9cc19df2f8de7f546f292fa756a1ed41d2c7270cf347737accc40"), looks := false }, kinds := [], alts := [], laidByText := true, laidKinds := [.data], laidTests := true, laidLooks := .later }
def PolyPolysCardSaid : Prop := Claim7.holds Tryd.pinned (.plain (OpenSpec.ofChange polyPolysSpec)) polyPolysCard

/-- THE TIED CARD OF 'chatelainelaw4.PolyDots'. -/
def polyDotsCard : Claim7 := { stood := { row := polyDotsRow, standIns := [], harness := (true, "2fa2693c5ad9cc19df2f8de7f546f292fa756a1ed41d2c7270cf347737accc40"), looks := false }, kinds := [], alts := [], laidByText := true, laidKinds := [.data], laidTests := true, laidLooks := .later }
def PolyDotsCardSaid : Prop := Claim7.holds Tryd.pinned (.plain (OpenSpec.ofChange polyDotsSpec)) polyDotsCard

/-- THE TIED CARD OF 'chatelainelaw4.PolyBack'. -/
def polyBackCard : Claim7 := { stood := { row := polyBackRow, standIns := [], harness := (true, "2fa2693c5ad9cc19df2f8de7f546f292fa756a1ed41d2c7270cf347737accc40"), looks := false }, kinds := [], alts := [], laidByText := true, laidKinds := [.data], laidTests := true, laidLooks := .later }
def PolyBackCardSaid : Prop := Claim7.holds Tryd.pinned (.plain (OpenSpec.ofChange polyBackSpec)) polyBackCard

/-- THE TIED CARD OF 'chatelainelaw4.PolyProducts'. -/
def polyProductsCard : Claim7 := { stood := { row := polyProductsRow, standIns := [], harness := (true, "2fa2693c5ad9cc19df2f8de7f546f292fa756a1ed41d2c7270cf347737accc40"), looks := false }, kinds := [], alts := [], laidByText := true, laidKinds := [.data], laidTests := true, laidLooks := .later }
def PolyProductsCardSaid : Prop := Claim7.holds Tryd.pinned (.plain (OpenSpec.ofChange polyProductsSpec)) polyProductsCard

/-- THE TIED CARD OF 'chatelainelaw4.PolyUnits'. -/
def polyUnitsCard : Claim7 := { stood := { row := polyUnitsRow, standIns := [], harness := (true, "2fa2693c5ad9cc19df2f8de7f546f292fa756a1ed41d2c7270cf347737accc40"), looks := false }, kinds := [], alts := [], laidByText := true, laidKinds := [.data], laidTests := true, laidLooks := .later }
def PolyUnitsCardSaid : Prop := Claim7.holds Tryd.pinned (.plain (OpenSpec.ofChange polyUnitsSpec)) polyUnitsCard

/-- THE TIED CARD OF 'chatelainelaw4.PolyRing'. -/
def polyRingCard : Claim7 := { stood := { row := polyRingRow, standIns := [], harness := (true, "2fa2693c5ad9cc19df2f8de7f546f292fa756a1ed41d2c7270cf347737accc40"), looks := false }, kinds := [], alts := [], laidByText := true, laidKinds := [.data], laidTests := true, laidLooks := .later }
def PolyRingCardSaid : Prop := Claim7.holds Tryd.pinned (.plain (OpenSpec.ofChange polyRingSpec)) polyRingCard

/-- THE TIED CARD OF 'chatelainelaw4.PolyTurns'. -/
def polyTurnsCard : Claim7 := { stood := { row := polyTurnsRow, standIns := [], harness := (true, "2fa2693c5ad9cc19df2f8de7f546f292fa756a1ed41d2c7270cf347737accc40"), looks := false }, kinds := [], alts := [], laidByText := true, laidKinds := [.data], laidTests := true, laidLooks := .later }
def PolyTurnsCardSaid : Prop := Claim7.holds Tryd.pinned (.plain (OpenSpec.ofChange polyTurnsSpec)) polyTurnsCard

/-- THE SECOND FORM's CARD OF 'chatelainelaw4.PolyTells'. -/
def polyTellsUptoCard : Claim7 := { stood := { row := polyTellsUptoRow, standIns := [], harness := (true, "2fa2693c5ad9cc19df2f8de7f546f292fa756a1ed41d2c7270cf347737accc40"), looks := false }, kinds := [], alts := [], laidByText := true, laidKinds := [.data], laidTests := true, laidLooks := .later }
def PolyTellsUptoCardSaid : Prop := Claim7.holds Tryd.pinned (.plain (OpenSpec.upto polyTellsSpec)) polyTellsUptoCard

/-- THE SECOND FORM's CARD OF 'chatelainelaw4.PolyPolys'. -/
def polyPolysUptoCard : Claim7 := { stood := { row := polyPolysUptoRow, standIns := [], harness := (true, "2fa2693c5ad9cc19df2f8de7f546f292fa756a1ed41d2c7270cf347737accc40"), looks := false }, kinds := [], alts := [], laidByText := true, laidKinds := [.data], laidTests := true, laidLooks := .later }
def PolyPolysUptoCardSaid : Prop := Claim7.holds Tryd.pinned (.plain (OpenSpec.upto polyPolysSpec)) polyPolysUptoCard

/-- THE SECOND FORM's CARD OF 'chatelainelaw4.PolyDots'. -/
def polyDotsUptoCard : Claim7 := { stood := { row := polyDotsUptoRow, standIns := [], harness := (true, "2fa2693c5ad9cc19df2f8de7f546f292fa756a1ed41d2c7270cf347737accc40"), looks := false }, kinds := [], alts := [], laidByText := true, laidKinds := [.data], laidTests := true, laidLooks := .later }
def PolyDotsUptoCardSaid : Prop := Claim7.holds Tryd.pinned (.plain (OpenSpec.upto polyDotsSpec)) polyDotsUptoCard

/-- THE SECOND FORM's CARD OF 'chatelainelaw4.PolyBack'. -/
def polyBackUptoCard : Claim7 := { stood := { row := polyBackUptoRow, standIns := [], harness := (true, "2fa2693c5ad9cc19df2f8de7f546f292fa756a1ed41d2c7270cf347737accc40"), looks := false }, kinds := [], alts := [], laidByText := true, laidKinds := [.data], laidTests := true, laidLooks := .later }
def PolyBackUptoCardSaid : Prop := Claim7.holds Tryd.pinned (.plain (OpenSpec.upto polyBackSpec)) polyBackUptoCard

/-- THE SECOND FORM's CARD OF 'chatelainelaw4.PolyProducts'. -/
def polyProductsUptoCard : Claim7 := { stood := { row := polyProductsUptoRow, standIns := [], harness := (true, "2fa2693c5ad9cc19df2f8de7f546f292fa756a1ed41d2c7270cf347737accc40"), looks := false }, kinds := [], alts := [], laidByText := true, laidKinds := [.data], laidTests := true, laidLooks := .later }
def PolyProductsUptoCardSaid : Prop := Claim7.holds Tryd.pinned (.plain (OpenSpec.upto polyProductsSpec)) polyProductsUptoCard

/-- THE SECOND FORM's CARD OF 'chatelainelaw4.PolyUnits'. -/
def polyUnitsUptoCard : Claim7 := { stood := { row := polyUnitsUptoRow, standIns := [], harness := (true, "2fa2693c5ad9cc19df2f8de7f546f292fa756a1ed41d2c7270cf347737accc40"), looks := false }, kinds := [], alts := [], laidByText := true, laidKinds := [.data], laidTests := true, laidLooks := .later }
def PolyUnitsUptoCardSaid : Prop := Claim7.holds Tryd.pinned (.plain (OpenSpec.upto polyUnitsSpec)) polyUnitsUptoCard

/-- THE SECOND FORM's CARD OF 'chatelainelaw4.PolyRing'. -/
def polyRingUptoCard : Claim7 := { stood := { row := polyRingUptoRow, standIns := [], harness := (true, "2fa2693c5ad9cc19df2f8de7f546f292fa756a1ed41d2c7270cf347737accc40"), looks := false }, kinds := [], alts := [], laidByText := true, laidKinds := [.data], laidTests := true, laidLooks := .later }
def PolyRingUptoCardSaid : Prop := Claim7.holds Tryd.pinned (.plain (OpenSpec.upto polyRingSpec)) polyRingUptoCard

/-- THE SECOND FORM's CARD OF 'chatelainelaw4.PolyTurns'. -/
def polyTurnsUptoCard : Claim7 := { stood := { row := polyTurnsUptoRow, standIns := [], harness := (true, "2fa2693c5ad9cc19df2f8de7f546f292fa756a1ed41d2c7270cf347737accc40"), looks := false }, kinds := [], alts := [], laidByText := true, laidKinds := [.data], laidTests := true, laidLooks := .later }
def PolyTurnsUptoCardSaid : Prop := Claim7.holds Tryd.pinned (.plain (OpenSpec.upto polyTurnsSpec)) polyTurnsUptoCard
end Rows
end Go.Proofs.YtmjcgkddjgplkaaDoor
