/-
  DERIVED. GIVEN WITH THE SEED: THE CARDS: each row of YtealebeacddbbaaDoorRows.lean that lists a variable, with what it lists TIED to the program's text (the seventh form; the later family's looks); each row that meets fmt, with fmt's text TOLD by the authors' own Lean function (tested against real Go, not proved from fmt's source: count such statements apart). THE CARD IS WHAT COUNTS. Prove the row's statement (the work); the ties are given (YtealebeacddbbaaDoorTie.lean); close each card by the builder's one call (the guide's Derived/Test/ToyasCard.lean, 'card_holds'). Laid BY PROGRAM, IN A SANDBOX (cutbox-door.mjs). By AI agents, Wed Nov 11 2026. No macro, syntax, notation, axiom, sorry.
-/
import Derived.Test.YtealebeacddbbaaDoorRows
import GoSem.ClaimSeven
namespace Go.Proofs.YtealebeacddbbaaDoor
namespace Rows

/-- THE TIED CARD OF 'chatelainelaw17.KeysCircle'. -/
def keysCircleCard : Claim7 := { stood := { row := keysCircleRow, standIns := [], harness := (true, "0fc8e4b0d7d4941ee3cd3dd0ed137a7a4c030a313ac783e4818fdd0b2e82159a"), looks := true }, kinds := [], alts := [], laidByText := true, laidKinds := [.handle], laidTests := true, laidLooks := .later }
def KeysCircleCardSaid : Prop := Claim7.holds Tryd.pinned (.plain (OpenSpec.ofChange keysCircleSpec)) keysCircleCard

/-- THE SECOND FORM's CARD OF 'chatelainelaw17.KeysCircle'. -/
def keysCircleUptoCard : Claim7 := { stood := { row := keysCircleUptoRow, standIns := [], harness := (true, "0fc8e4b0d7d4941ee3cd3dd0ed137a7a4c030a313ac783e4818fdd0b2e82159a"), looks := true }, kinds := [], alts := [], laidByText := true, laidKinds := [.handle], laidTests := true, laidLooks := .later }
def KeysCircleUptoCardSaid : Prop := Claim7.holds Tryd.pinned (.plain (OpenSpec.upto keysCircleSpec)) keysCircleUptoCard
end Rows
end Go.Proofs.YtealebeacddbbaaDoor
