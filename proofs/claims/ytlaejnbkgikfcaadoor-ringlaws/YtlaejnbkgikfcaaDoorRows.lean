/-
  NARROWER THAN 'FOR EVERY INPUT', by the rows' own cells (each row's printed sentence says how): RingTells: laid · RingLaws: laid · RingNear: laid · RingRoots: laid · RingRises: laid · RingPowers: laid.
  DERIVED. THE GIVEN ROWS OF THIS SEAT. 6 by the template 'for every input the law returns true; each argument reads behind the call as it read before'; 0 by the template 'total and deterministic' (their statements: YtlaejnbkgikfcaaDoorTotals.lean).
  GIVEN WITH THE SEED: the statements are not yours to turn. If you find one false, say at which input.
  Laid BY PROGRAM, IN A SANDBOX (cutbox-rows.mjs): the forced cells as the released guide's own fill.sh prints them over the translation 8eb4bdb88726afdb… (all of the seat's roots in one cut). By AI agents, Wed Nov 11 2026. No macro, syntax, notation, axiom, sorry.
-/
import Derived.Test.YtlaejnbkgikfcaaDoorChecked
import GoSem.Claim
import GoSem.ClaimJoined
import GoSem.ClaimMapViews
import Derived.JoinedTies
import Derived.KernelRfl
namespace Go.Proofs.YtlaejnbkgikfcaaDoor
/- THE CELL 'sum', in the pinned program and in every row, IS THE sha256 OF THE DUMP (.gsa) THAT YtlaejnbkgikfcaaDoorProg.lean LOADS. Nothing in Lean hashes anything: it is a label: what it is worth is what the hold of that sum in a sandbox is worth. -/
noncomputable def Tryd.pinned : Pinned := { name := "ytlaejnbkgikfcaadoor", sum := "8eb4bdb88726afdb488755c21fe756800dc0bfeaf4bface7fec8fd4bdd2620de", checked := Tryd.checked }
namespace Rows
def none {H : Type} : Left H := { results := [], args := [] }

/- WHAT THE LISTED PACKAGE-LEVEL VARIABLES READ AS WHEN THE CALL BEGINS. Each datum BY PROGRAM (the guide's laid-datum.mjs) off the statement by which the dump's own 'gosem.cut.vars' lays the variable. In a bare row this is a premise. The card (YtlaejnbkgikfcaaDoorCards.lean) ties it to the program's text. -/
def laid_chatelaine_ring_roots {H : Type} : DataW H := .agg [.lit (.int .i64 1), .lit (.int .i64 1729), .lit (.int .i64 2580), .lit (.int .i64 3289), .lit (.int .i64 2642), .lit (.int .i64 630), .lit (.int .i64 1897), .lit (.int .i64 848), .lit (.int .i64 1062), .lit (.int .i64 1919), .lit (.int .i64 193), .lit (.int .i64 797), .lit (.int .i64 2786), .lit (.int .i64 3260), .lit (.int .i64 569), .lit (.int .i64 1746), .lit (.int .i64 296), .lit (.int .i64 2447), .lit (.int .i64 1339), .lit (.int .i64 1476), .lit (.int .i64 3046), .lit (.int .i64 56), .lit (.int .i64 2240), .lit (.int .i64 1333), .lit (.int .i64 1426), .lit (.int .i64 2094), .lit (.int .i64 535), .lit (.int .i64 2882), .lit (.int .i64 2393), .lit (.int .i64 2879), .lit (.int .i64 1974), .lit (.int .i64 821), .lit (.int .i64 289), .lit (.int .i64 331), .lit (.int .i64 3253), .lit (.int .i64 1756), .lit (.int .i64 1197), .lit (.int .i64 2304), .lit (.int .i64 2277), .lit (.int .i64 2055), .lit (.int .i64 650), .lit (.int .i64 1977), .lit (.int .i64 2513), .lit (.int .i64 632), .lit (.int .i64 2865), .lit (.int .i64 33), .lit (.int .i64 1320), .lit (.int .i64 1915), .lit (.int .i64 2319), .lit (.int .i64 1435), .lit (.int .i64 807), .lit (.int .i64 452), .lit (.int .i64 1438), .lit (.int .i64 2868), .lit (.int .i64 1534), .lit (.int .i64 2402), .lit (.int .i64 2647), .lit (.int .i64 2617), .lit (.int .i64 1481), .lit (.int .i64 648), .lit (.int .i64 2474), .lit (.int .i64 3110), .lit (.int .i64 1227), .lit (.int .i64 910), .lit (.int .i64 17), .lit (.int .i64 2761), .lit (.int .i64 583), .lit (.int .i64 2649), .lit (.int .i64 1637), .lit (.int .i64 723), .lit (.int .i64 2288), .lit (.int .i64 1100), .lit (.int .i64 1409), .lit (.int .i64 2662), .lit (.int .i64 3281), .lit (.int .i64 233), .lit (.int .i64 756), .lit (.int .i64 2156), .lit (.int .i64 3015), .lit (.int .i64 3050), .lit (.int .i64 1703), .lit (.int .i64 1651), .lit (.int .i64 2789), .lit (.int .i64 1789), .lit (.int .i64 1847), .lit (.int .i64 952), .lit (.int .i64 1461), .lit (.int .i64 2687), .lit (.int .i64 939), .lit (.int .i64 2308), .lit (.int .i64 2437), .lit (.int .i64 2388), .lit (.int .i64 733), .lit (.int .i64 2337), .lit (.int .i64 268), .lit (.int .i64 641), .lit (.int .i64 1584), .lit (.int .i64 2298), .lit (.int .i64 2037), .lit (.int .i64 3220), .lit (.int .i64 375), .lit (.int .i64 2549), .lit (.int .i64 2090), .lit (.int .i64 1645), .lit (.int .i64 1063), .lit (.int .i64 319), .lit (.int .i64 2773), .lit (.int .i64 757), .lit (.int .i64 2099), .lit (.int .i64 561), .lit (.int .i64 2466), .lit (.int .i64 2594), .lit (.int .i64 2804), .lit (.int .i64 1092), .lit (.int .i64 403), .lit (.int .i64 1026), .lit (.int .i64 1143), .lit (.int .i64 2150), .lit (.int .i64 2775), .lit (.int .i64 886), .lit (.int .i64 1722), .lit (.int .i64 1212), .lit (.int .i64 1874), .lit (.int .i64 1029), .lit (.int .i64 2110), .lit (.int .i64 2935), .lit (.int .i64 885), .lit (.int .i64 2154)]

/-- 'chatelainelaw3.RingTells': WHATEVER THE INPUT: true; the input reads as it did. -/
def ringTellsSpec : ChangeSpec := { name := "ringTells", fn := fun _ => fun
  | [d1, d2, d3] => { results := [.lit (.bool true)], args := [d1, d2, d3] }
  | _ => none }
def ringTellsRow : OpenClaim := { program := "ytlaejnbkgikfcaadoor", sum := "8eb4bdb88726afdb488755c21fe756800dc0bfeaf4bface7fec8fd4bdd2620de", func := "chatelaine/chatelainelaw3.RingTells", spec := "ringTells", named := ["chatelaine/ring.roots"], apart := false, laid := [("chatelaine/ring.roots", laid_chatelaine_ring_roots)] }
def RingTellsSaid : Prop := ringTellsRow.holds Tryd.pinned (OpenSpec.ofChange ringTellsSpec)

/-- ITS FALSE NEIGHBOUR: 'it returns false'. Refute it at one input. -/
def ringTellsWrong : ChangeSpec := { name := "ringTells", fn := fun _ => fun
  | [d1, d2, d3] => { results := [.lit (.bool false)], args := [d1, d2, d3] }
  | _ => none }
def RingTellsWrongFalsely : Prop := ringTellsRow.holds Tryd.pinned (OpenSpec.ofChange ringTellsWrong)

/-- 'chatelainelaw3.RingLaws': WHATEVER THE INPUT: true; the input reads as it did. -/
def ringLawsSpec : ChangeSpec := { name := "ringLaws", fn := fun _ => fun
  | [d1, d2, d3] => { results := [.lit (.bool true)], args := [d1, d2, d3] }
  | _ => none }
def ringLawsRow : OpenClaim := { program := "ytlaejnbkgikfcaadoor", sum := "8eb4bdb88726afdb488755c21fe756800dc0bfeaf4bface7fec8fd4bdd2620de", func := "chatelaine/chatelainelaw3.RingLaws", spec := "ringLaws", named := ["chatelaine/ring.roots"], apart := false, laid := [("chatelaine/ring.roots", laid_chatelaine_ring_roots)] }
def RingLawsSaid : Prop := ringLawsRow.holds Tryd.pinned (OpenSpec.ofChange ringLawsSpec)

/-- ITS FALSE NEIGHBOUR: 'it returns false'. Refute it at one input. -/
def ringLawsWrong : ChangeSpec := { name := "ringLaws", fn := fun _ => fun
  | [d1, d2, d3] => { results := [.lit (.bool false)], args := [d1, d2, d3] }
  | _ => none }
def RingLawsWrongFalsely : Prop := ringLawsRow.holds Tryd.pinned (OpenSpec.ofChange ringLawsWrong)

/-- 'chatelainelaw3.RingNear': WHATEVER THE INPUT: true; the input reads as it did. -/
def ringNearSpec : ChangeSpec := { name := "ringNear", fn := fun _ => fun
  | [d1, d2, d3] => { results := [.lit (.bool true)], args := [d1, d2, d3] }
  | _ => none }
def ringNearRow : OpenClaim := { program := "ytlaejnbkgikfcaadoor", sum := "8eb4bdb88726afdb488755c21fe756800dc0bfeaf4bface7fec8fd4bdd2620de", func := "chatelaine/chatelainelaw3.RingNear", spec := "ringNear", named := ["chatelaine/ring.roots"], apart := false, laid := [("chatelaine/ring.roots", laid_chatelaine_ring_roots)] }
def RingNearSaid : Prop := ringNearRow.holds Tryd.pinned (OpenSpec.ofChange ringNearSpec)

/-- ITS FALSE NEIGHBOUR: 'it returns false'. Refute it at one input. -/
def ringNearWrong : ChangeSpec := { name := "ringNear", fn := fun _ => fun
  | [d1, d2, d3] => { results := [.lit (.bool false)], args := [d1, d2, d3] }
  | _ => none }
def RingNearWrongFalsely : Prop := ringNearRow.holds Tryd.pinned (OpenSpec.ofChange ringNearWrong)

/-- 'chatelainelaw3.RingRoots': WHATEVER THE INPUT: true; the input reads as it did. -/
def ringRootsSpec : ChangeSpec := { name := "ringRoots", fn := fun _ => fun
  | [d1, d2] => { results := [.lit (.bool true)], args := [d1, d2] }
  | _ => none }
def ringRootsRow : OpenClaim := { program := "ytlaejnbkgikfcaadoor", sum := "8eb4bdb88726afdb488755c21fe756800dc0bfeaf4bface7fec8fd4bdd2620de", func := "chatelaine/chatelainelaw3.RingRoots", spec := "ringRoots", named := ["chatelaine/ring.roots"], apart := false, laid := [("chatelaine/ring.roots", laid_chatelaine_ring_roots)] }
def RingRootsSaid : Prop := ringRootsRow.holds Tryd.pinned (OpenSpec.ofChange ringRootsSpec)

/-- ITS FALSE NEIGHBOUR: 'it returns false'. Refute it at one input. -/
def ringRootsWrong : ChangeSpec := { name := "ringRoots", fn := fun _ => fun
  | [d1, d2] => { results := [.lit (.bool false)], args := [d1, d2] }
  | _ => none }
def RingRootsWrongFalsely : Prop := ringRootsRow.holds Tryd.pinned (OpenSpec.ofChange ringRootsWrong)

/-- 'chatelainelaw3.RingRises': WHATEVER THE INPUT: true; the input reads as it did. -/
def ringRisesSpec : ChangeSpec := { name := "ringRises", fn := fun _ => fun
  | [d1, d2, d3] => { results := [.lit (.bool true)], args := [d1, d2, d3] }
  | _ => none }
def ringRisesRow : OpenClaim := { program := "ytlaejnbkgikfcaadoor", sum := "8eb4bdb88726afdb488755c21fe756800dc0bfeaf4bface7fec8fd4bdd2620de", func := "chatelaine/chatelainelaw3.RingRises", spec := "ringRises", named := ["chatelaine/ring.roots"], apart := false, laid := [("chatelaine/ring.roots", laid_chatelaine_ring_roots)] }
def RingRisesSaid : Prop := ringRisesRow.holds Tryd.pinned (OpenSpec.ofChange ringRisesSpec)

/-- ITS FALSE NEIGHBOUR: 'it returns false'. Refute it at one input. -/
def ringRisesWrong : ChangeSpec := { name := "ringRises", fn := fun _ => fun
  | [d1, d2, d3] => { results := [.lit (.bool false)], args := [d1, d2, d3] }
  | _ => none }
def RingRisesWrongFalsely : Prop := ringRisesRow.holds Tryd.pinned (OpenSpec.ofChange ringRisesWrong)

/-- 'chatelainelaw3.RingPowers': WHATEVER THE INPUT: true; the input reads as it did. -/
def ringPowersSpec : ChangeSpec := { name := "ringPowers", fn := fun _ => fun
  | [d1, d2, d3] => { results := [.lit (.bool true)], args := [d1, d2, d3] }
  | _ => none }
def ringPowersRow : OpenClaim := { program := "ytlaejnbkgikfcaadoor", sum := "8eb4bdb88726afdb488755c21fe756800dc0bfeaf4bface7fec8fd4bdd2620de", func := "chatelaine/chatelainelaw3.RingPowers", spec := "ringPowers", named := ["chatelaine/ring.roots"], apart := false, laid := [("chatelaine/ring.roots", laid_chatelaine_ring_roots)] }
def RingPowersSaid : Prop := ringPowersRow.holds Tryd.pinned (OpenSpec.ofChange ringPowersSpec)

/-- ITS FALSE NEIGHBOUR: 'it returns false'. Refute it at one input. -/
def ringPowersWrong : ChangeSpec := { name := "ringPowers", fn := fun _ => fun
  | [d1, d2, d3] => { results := [.lit (.bool false)], args := [d1, d2, d3] }
  | _ => none }
def RingPowersWrongFalsely : Prop := ringPowersRow.holds Tryd.pinned (OpenSpec.ofChange ringPowersWrong)

/- THE SECOND FORM. 'bulk': how many values and letters a reading holds, each counted each time it is reached (what is shared counts as often as it is met; a slice's spare places count too). A statement '..UptoSaid' is the law's where the arguments, and the package variables that the reading takes, are together of bulk at most 1048576: NARROWER than '..Said'. Prove '..Said' where nothing that the law and all that it calls make is longer than what came in: it says more and counts as full. Else prove '..UptoSaid'. A law counts once. -/
mutual
def uptoBulk {H : Type} : DataW H → Nat
  | .lit (.string bytes) => bytes.length + 1
  | .lit _ => 1
  | .nil => 1
  | .ptr d => uptoBulk d + 1
  | .slice elems spare => uptoBulkAll elems + uptoBulkAll spare + 1
  | .agg parts => uptoBulkAll parts + 1
  | .iface _ d => uptoBulk d + 1
  | .map entries => uptoBulkEntries entries + 1
  | .held _ => 1
def uptoBulkAll {H : Type} : List (DataW H) → Nat
  | [] => 0
  | d :: r => uptoBulk d + uptoBulkAll r
def uptoBulkEntries {H : Type} : List (Lit × DataW H) → Nat
  | [] => 0
  | x :: r => uptoBulkEntry x + uptoBulkEntries r
def uptoBulkEntry {H : Type} : Lit × DataW H → Nat
  | (.string bytes, d) => bytes.length + uptoBulk d + 1
  | (_, d) => uptoBulk d + 1
 end
def uptoSmall : (H : Type) → List (DataW H) → Bool := fun _ ds => decide (uptoBulkAll ds ≤ 1048576)
def OpenSpec.upto (s : _root_.Go.ChangeSpec) : _root_.Go.OpenSpec := { _root_.Go.OpenSpec.ofChange s with cond := some uptoSmall }

/-- 'chatelainelaw3.RingTells', WHERE WHAT IT READS IS OF BULK AT MOST 1048576: true; the input reads as it did. -/
def ringTellsUptoRow : OpenClaim := { program := "ytlaejnbkgikfcaadoor", sum := "8eb4bdb88726afdb488755c21fe756800dc0bfeaf4bface7fec8fd4bdd2620de", func := "chatelaine/chatelainelaw3.RingTells", spec := "ringTells", named := ["chatelaine/ring.roots"], apart := false, laid := [("chatelaine/ring.roots", laid_chatelaine_ring_roots)], narrowed := true }
def RingTellsUptoSaid : Prop := ringTellsUptoRow.holds Tryd.pinned (OpenSpec.upto ringTellsSpec)

/-- 'chatelainelaw3.RingLaws', WHERE WHAT IT READS IS OF BULK AT MOST 1048576: true; the input reads as it did. -/
def ringLawsUptoRow : OpenClaim := { program := "ytlaejnbkgikfcaadoor", sum := "8eb4bdb88726afdb488755c21fe756800dc0bfeaf4bface7fec8fd4bdd2620de", func := "chatelaine/chatelainelaw3.RingLaws", spec := "ringLaws", named := ["chatelaine/ring.roots"], apart := false, laid := [("chatelaine/ring.roots", laid_chatelaine_ring_roots)], narrowed := true }
def RingLawsUptoSaid : Prop := ringLawsUptoRow.holds Tryd.pinned (OpenSpec.upto ringLawsSpec)

/-- 'chatelainelaw3.RingNear', WHERE WHAT IT READS IS OF BULK AT MOST 1048576: true; the input reads as it did. -/
def ringNearUptoRow : OpenClaim := { program := "ytlaejnbkgikfcaadoor", sum := "8eb4bdb88726afdb488755c21fe756800dc0bfeaf4bface7fec8fd4bdd2620de", func := "chatelaine/chatelainelaw3.RingNear", spec := "ringNear", named := ["chatelaine/ring.roots"], apart := false, laid := [("chatelaine/ring.roots", laid_chatelaine_ring_roots)], narrowed := true }
def RingNearUptoSaid : Prop := ringNearUptoRow.holds Tryd.pinned (OpenSpec.upto ringNearSpec)

/-- 'chatelainelaw3.RingRoots', WHERE WHAT IT READS IS OF BULK AT MOST 1048576: true; the input reads as it did. -/
def ringRootsUptoRow : OpenClaim := { program := "ytlaejnbkgikfcaadoor", sum := "8eb4bdb88726afdb488755c21fe756800dc0bfeaf4bface7fec8fd4bdd2620de", func := "chatelaine/chatelainelaw3.RingRoots", spec := "ringRoots", named := ["chatelaine/ring.roots"], apart := false, laid := [("chatelaine/ring.roots", laid_chatelaine_ring_roots)], narrowed := true }
def RingRootsUptoSaid : Prop := ringRootsUptoRow.holds Tryd.pinned (OpenSpec.upto ringRootsSpec)

/-- 'chatelainelaw3.RingRises', WHERE WHAT IT READS IS OF BULK AT MOST 1048576: true; the input reads as it did. -/
def ringRisesUptoRow : OpenClaim := { program := "ytlaejnbkgikfcaadoor", sum := "8eb4bdb88726afdb488755c21fe756800dc0bfeaf4bface7fec8fd4bdd2620de", func := "chatelaine/chatelainelaw3.RingRises", spec := "ringRises", named := ["chatelaine/ring.roots"], apart := false, laid := [("chatelaine/ring.roots", laid_chatelaine_ring_roots)], narrowed := true }
def RingRisesUptoSaid : Prop := ringRisesUptoRow.holds Tryd.pinned (OpenSpec.upto ringRisesSpec)

/-- 'chatelainelaw3.RingPowers', WHERE WHAT IT READS IS OF BULK AT MOST 1048576: true; the input reads as it did. -/
def ringPowersUptoRow : OpenClaim := { program := "ytlaejnbkgikfcaadoor", sum := "8eb4bdb88726afdb488755c21fe756800dc0bfeaf4bface7fec8fd4bdd2620de", func := "chatelaine/chatelainelaw3.RingPowers", spec := "ringPowers", named := ["chatelaine/ring.roots"], apart := false, laid := [("chatelaine/ring.roots", laid_chatelaine_ring_roots)], narrowed := true }
def RingPowersUptoSaid : Prop := ringPowersUptoRow.holds Tryd.pinned (OpenSpec.upto ringPowersSpec)

end Rows
end Go.Proofs.YtlaejnbkgikfcaaDoor
