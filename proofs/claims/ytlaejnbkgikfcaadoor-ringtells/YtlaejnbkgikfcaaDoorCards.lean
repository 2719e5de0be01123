/-
  DERIVED. GIVEN WITH THE SEED: THE CARDS: each row of YtlaejnbkgikfcaaDoorRows.lean that lists a variable, with what it lists TIED to the program's text (the seventh form; the later family's looks); each row that meets fmt, with fmt's text TOLD by the authors' own Lean function (tested against real Go, not proved from fmt's source: count such statements apart). THE CARD IS WHAT COUNTS. Prove the row's statement (the work); the ties are given (YtlaejnbkgikfcaaDoorTie.lean); close each card by the builder's one call (the guide's Derived/Test/ToyasCard.lean, 'card_holds'). Laid BY PROGRAM, IN A SANDBOX (cutbox-door.mjs). By AI agents, Wed Nov 11 2026. No macro, syntax, notation, axiom, sorry.
-/
import Derived.Test.YtlaejnbkgikfcaaDoorRows
import GoSem.ClaimSeven
namespace Go.Proofs.YtlaejnbkgikfcaaDoor
namespace Rows

/-- THE TIED CARD OF 'chatelainelaw3.RingTells'. -/
def ringTellsCard : Claim7 := { stood := { row := ringTellsRow, standIns := [], harness := (true, "788ad70a29568237be7eadf766f4f3beecbf22ed2d736ac92df61e0124c20da3"), looks := false }, kinds := [], alts := [], laidByText := true, laidKinds := [.data], laidTests := true, laidLooks := .later }
def RingTellsCardSaid : Prop := Claim7.holds Tryd.pinned (.plain (OpenSpec.ofChange ringTellsSpec)) ringTellsCard

/-- THE TIED CARD OF 'chatelainelaw3.RingLaws'. -/
def ringLawsCard : Claim7 := { stood := { row := ringLawsRow, standIns := [], harness := (true, "788ad70a29568237be7eadf766f4f3beecbf22ed2d736ac92df61e0124c20da3"), looks := false }, kinds := [], alts := [], laidByText := true, laidKinds := [.data], laidTests := true, laidLooks := .later }
def RingLawsCardSaid : Prop := Claim7.holds Tryd.pinned (.plain (OpenSpec.ofChange ringLawsSpec)) ringLawsCard

/-- THE TIED CARD OF 'chatelainelaw3.RingNear'. -/
def ringNearCard : Claim7 := { stood := { row := ringNearRow, standIns := [], harness := (true, "788ad70a29568237be7eadf766f4f3beecbf22ed2d736ac92df61e0124c20da3"), looks := false }, kinds := [], alts := [], laidByText := true, laidKinds := [.data], laidTests := true, laidLooks := .later }
def RingNearCardSaid : Prop := Claim7.holds Tryd.pinned (.plain (OpenSpec.ofChange ringNearSpec)) ringNearCard

/-- THE TIED CARD OF 'chatelainelaw3.RingRoots'. -/
def ringRootsCard : Claim7 := { stood := { row := ringRootsRow, standIns := [], harness := (true, "788ad70a29568237be7eadf766f4f3beecbf22ed2d736ac92df61e0124c20da3"), looks := false }, kinds := [], alts := [], laidByText := true, laidKinds := [.data], laidTests := true, laidLooks := .later }
def RingRootsCardSaid : Prop := Claim7.holds Tryd.pinned (.plain (OpenSpec.ofChange ringRootsSpec)) ringRootsCard

/-- THE TIED CARD OF 'chatelainelaw3.RingRises'. -/
def ringRisesCard : Claim7 := { stood := { row := ringRisesRow, standIns := [], harness := (true, "788ad70a29568237be7eadf766f4f3beecbf22ed2d736ac92df61e0124c20da3"), looks := false }, kinds := [], alts := [], laidByText := true, laidKinds := [.data], laidTests := true, laidLooks := .later }
def RingRisesCardSaid : Prop := Claim7.holds Tryd.pinned (.plain (OpenSpec.ofChange ringRisesSpec)) ringRisesCard

/-- THE TIED CARD OF 'chatelainelaw3.RingPowers'. -/
def ringPowersCard : Claim7 := { stood := { row := ringPowersRow, standIns := [], harness := (true, "788ad70a29568237be7eadf766f4f3beecbf22ed2d736ac92df61e0124c20da3"), looks := false }, kinds := [], alts := [], laidByText := true, laidKinds := [.data], laidTests := true, laidLooks := .later }
def RingPowersCardSaid : Prop := Claim7.holds Tryd.pinned (.plain (OpenSpec.ofChange ringPowersSpec)) ringPowersCard

/-- THE SECOND FORM's CARD OF 'chatelainelaw3.RingTells'. -/
def ringTellsUptoCard : Claim7 := { stood := { row := ringTellsUptoRow, standIns := [], harness := (true, "788ad70a29568237be7eadf766f4f3beecbf22ed2d736ac92df61e0124c20da3"), looks := false }, kinds := [], alts := [], laidByText := true, laidKinds := [.data], laidTests := true, laidLooks := .later }
def RingTellsUptoCardSaid : Prop := Claim7.holds Tryd.pinned (.plain (OpenSpec.upto ringTellsSpec)) ringTellsUptoCard

/-- THE SECOND FORM's CARD OF 'chatelainelaw3.RingLaws'. -/
def ringLawsUptoCard : Claim7 := { stood := { row := ringLawsUptoRow, standIns := [], harness := (true, "788ad70a29568237be7eadf766f4f3beecbf22ed2d736ac92df61e0124c20da3"), looks := false }, kinds := [], alts := [], laidByText := true, laidKinds := [.data], laidTests := true, laidLooks := .later }
def RingLawsUptoCardSaid : Prop := Claim7.holds Tryd.pinned (.plain (OpenSpec.upto ringLawsSpec)) ringLawsUptoCard

/-- THE SECOND FORM's CARD OF 'chatelainelaw3.RingNear'. -/
def ringNearUptoCard : Claim7 := { stood := { row := ringNearUptoRow, standIns := [], harness := (true, "788ad70a29568237be7eadf766f4f3beecbf22ed2d736ac92df61e0124c20da3"), looks := false }, kinds := [], alts := [], laidByText := true, laidKinds := [.data], laidTests := true, laidLooks := .later }
def RingNearUptoCardSaid : Prop := Claim7.holds Tryd.pinned (.plain (OpenSpec.upto ringNearSpec)) ringNearUptoCard

/-- THE SECOND FORM's CARD OF 'chatelainelaw3.RingRoots'. -/
def ringRootsUptoCard : Claim7 := { stood := { row := ringRootsUptoRow, standIns := [], harness := (true, "788ad70a29568237be7eadf766f4f3beecbf22ed2d736ac92df61e0124c20da3"), looks := false }, kinds := [], alts := [], laidByText := true, laidKinds := [.data], laidTests := true, laidLooks := .later }
def RingRootsUptoCardSaid : Prop := Claim7.holds Tryd.pinned (.plain (OpenSpec.upto ringRootsSpec)) ringRootsUptoCard

/-- THE SECOND FORM's CARD OF 'chatelainelaw3.RingRises'. -/
def ringRisesUptoCard : Claim7 := { stood := { row := ringRisesUptoRow, standIns := [], harness := (true, "788ad70a29568237be7eadf766f4f3beecbf22ed2d736ac92df61e0124c20da3"), looks := false }, kinds := [], alts := [], laidByText := true, laidKinds := [.data], laidTests := true, laidLooks := .later }
def RingRisesUptoCardSaid : Prop := Claim7.holds Tryd.pinned (.plain (OpenSpec.upto ringRisesSpec)) ringRisesUptoCard

/-- THE SECOND FORM's CARD OF 'chatelainelaw3.RingPowers'. -/
def ringPowersUptoCard : Claim7 := { stood := { row := ringPowersUptoRow, standIns := [], harness := (true, "788ad70a29568237be7eadf766f4f3beecbf22ed2d736ac92df61e0124c20da3"), looks := false }, kinds := [], alts := [], laidByText := true, laidKinds := [.data], laidTests := true, laidLooks := .later }
def RingPowersUptoCardSaid : Prop := Claim7.holds Tryd.pinned (.plain (OpenSpec.upto ringPowersSpec)) ringPowersUptoCard
end Rows
end Go.Proofs.YtlaejnbkgikfcaaDoor
