/-
  DERIVED. GIVEN WITH THE SEED: THE CARDS: each row of YtidpihpddkfhgaaDoorRows.lean that lists a variable, with what it lists TIED to the program's text (the seventh form; the later family's looks); each row that meets fmt, with fmt's text TOLD by the authors' own Lean function (tested against real Go, not proved from fmt's source: count such statements apart). THE CARD IS WHAT COUNTS. Prove the row's statement (the work); the ties are given (YtidpihpddkfhgaaDoorTie.lean); close each card by the builder's one call (the guide's Derived/Test/ToyasCard.lean, 'card_holds'). Laid BY PROGRAM, IN A SANDBOX (cutbox-door.mjs). By AI agents, Wed Nov 11 2026. No macro, syntax, notation, axiom, sorry.
-/
import Derived.Test.YtidpihpddkfhgaaDoorRows
import GoSem.ClaimSeven
namespace Go.Proofs.YtidpihpddkfhgaaDoor
namespace Rows

/-- THE TIED CARD OF 'chatelainelaw15.AskBodies'. -/
def askBodiesCard : Claim7 := { stood := { row := askBodiesRow, standIns := [], harness := (true, "70badbbdf35407a76e7741a3f46e6a741db367a301466f57fea2e72137be30a8"), looks := true }, kinds := [], alts := [], laidByText := true, laidKinds := [.handle], laidTests := true, laidLooks := .later }
def AskBodiesCardSaid : Prop := Claim7.holds Tryd.pinned (.plain (OpenSpec.ofChange askBodiesSpec)) askBodiesCard

/-- THE TIED CARD OF 'chatelainelaw15.AskReads'. -/
def askReadsCard : Claim7 := { stood := { row := askReadsRow, standIns := [], harness := (true, "70badbbdf35407a76e7741a3f46e6a741db367a301466f57fea2e72137be30a8"), looks := true }, kinds := [], alts := [], laidByText := true, laidKinds := [.handle], laidTests := true, laidLooks := .later }
def AskReadsCardSaid : Prop := Claim7.holds Tryd.pinned (.plain (OpenSpec.ofChange askReadsSpec)) askReadsCard

/-- THE TIED CARD OF 'chatelainelaw15.AskApart'. -/
def askApartCard : Claim7 := { stood := { row := askApartRow, standIns := [], harness := (true, "70badbbdf35407a76e7741a3f46e6a741db367a301466f57fea2e72137be30a8"), looks := true }, kinds := [], alts := [], laidByText := true, laidKinds := [.handle], laidTests := true, laidLooks := .later }
def AskApartCardSaid : Prop := Claim7.holds Tryd.pinned (.plain (OpenSpec.ofChange askApartSpec)) askApartCard

/-- THE SECOND FORM's CARD OF 'chatelainelaw15.AskBodies'. -/
def askBodiesUptoCard : Claim7 := { stood := { row := askBodiesUptoRow, standIns := [], harness := (true, "70badbbdf35407a76e7741a3f46e6a741db367a301466f57fea2e72137be30a8"), looks := true }, kinds := [], alts := [], laidByText := true, laidKinds := [.handle], laidTests := true, laidLooks := .later }
def AskBodiesUptoCardSaid : Prop := Claim7.holds Tryd.pinned (.plain (OpenSpec.upto askBodiesSpec)) askBodiesUptoCard

/-- THE SECOND FORM's CARD OF 'chatelainelaw15.AskReads'. -/
def askReadsUptoCard : Claim7 := { stood := { row := askReadsUptoRow, standIns := [], harness := (true, "70badbbdf35407a76e7741a3f46e6a741db367a301466f57fea2e72137be30a8"), looks := true }, kinds := [], alts := [], laidByText := true, laidKinds := [.handle], laidTests := true, laidLooks := .later }
def AskReadsUptoCardSaid : Prop := Claim7.holds Tryd.pinned (.plain (OpenSpec.upto askReadsSpec)) askReadsUptoCard

/-- THE SECOND FORM's CARD OF 'chatelainelaw15.AskApart'. -/
def askApartUptoCard : Claim7 := { stood := { row := askApartUptoRow, standIns := [], harness := (true, "70badbbdf35407a76e7741a3f46e6a741db367a301466f57fea2e72137be30a8"), looks := true }, kinds := [], alts := [], laidByText := true, laidKinds := [.handle], laidTests := true, laidLooks := .later }
def AskApartUptoCardSaid : Prop := Claim7.holds Tryd.pinned (.plain (OpenSpec.upto askApartSpec)) askApartUptoCard
end Rows
end Go.Proofs.YtidpihpddkfhgaaDoor
