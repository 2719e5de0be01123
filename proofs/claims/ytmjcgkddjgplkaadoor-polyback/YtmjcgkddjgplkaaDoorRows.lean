/-
  NARROWER THAN 'FOR EVERY INPUT', by the rows' own cells (each row's printed sentence says how): PolyTells: laid · PolyPolys: laid · PolyDots: laid · PolyBack: laid · PolyProducts: laid · PolyUnits: laid · PolyRing: laid · PolyTurns: laid.
  DERIVED. THE GIVEN ROWS OF THIS SEAT. 8 by the template 'for every input the law returns true; each argument reads behind the call as it read before'; 0 by the template 'total and deterministic' (their statements: YtmjcgkddjgplkaaDoorTotals.lean).
  GIVEN WITH THE SEED: the statements are not yours to turn. If you find one false, say at which input.
  Laid BY PROGRAM, IN A SANDBOX (cutbox-rows.mjs): the forced cells as the released guide's own fill.sh prints them over the translation 0ef1500f030f068a… (all of the seat's roots in one cut). By AI agents, Wed Nov 11 2026. No macro, syntax, notation, axiom, sorry.
-/
import Derived.Test.YtmjcgkddjgplkaaDoorChecked
import GoSem.Claim
import GoSem.ClaimJoined
import GoSem.ClaimMapViews
import Derived.JoinedTies
import Derived.KernelRfl
namespace Go.Proofs.YtmjcgkddjgplkaaDoor
/- THE CELL 'sum', in the pinned program and in every row, IS THE sha256 OF THE DUMP (.gsa) THAT YtmjcgkddjgplkaaDoorProg.lean LOADS. Nothing in Lean hashes anything: it is a label: what it is worth is what the hold of that sum in a sandbox is worth. -/
noncomputable def Tryd.pinned : Pinned := { name := "ytmjcgkddjgplkaadoor", sum := "0ef1500f030f068a6862f9e94b8a874410af9207a97ef9186cc33951f6b146cf", checked := Tryd.checked }
namespace Rows
def none {H : Type} : Left H := { results := [], args := [] }

/- WHAT THE LISTED PACKAGE-LEVEL VARIABLES READ AS WHEN THE CALL BEGINS. Each datum BY PROGRAM (the guide's laid-datum.mjs) off the statement by which the dump's own 'gosem.cut.vars' lays the variable. In a bare row this is a premise. The card (YtmjcgkddjgplkaaDoorCards.lean) ties it to the program's text. -/
def laid_chatelaine_ring_roots {H : Type} : DataW H := .agg [.lit (.int .i64 1), .lit (.int .i64 1729), .lit (.int .i64 2580), .lit (.int .i64 3289), .lit (.int .i64 2642), .lit (.int .i64 630), .lit (.int .i64 1897), .lit (.int .i64 848), .lit (.int .i64 1062), .lit (.int .i64 1919), .lit (.int .i64 193), .lit (.int .i64 797), .lit (.int .i64 2786), .lit (.int .i64 3260), .lit (.int .i64 569), .lit (.int .i64 1746), .lit (.int .i64 296), .lit (.int .i64 2447), .lit (.int .i64 1339), .lit (.int .i64 1476), .lit (.int .i64 3046), .lit (.int .i64 56), .lit (.int .i64 2240), .lit (.int .i64 1333), .lit (.int .i64 1426), .lit (.int .i64 2094), .lit (.int .i64 535), .lit (.int .i64 2882), .lit (.int .i64 2393), .lit (.int .i64 2879), .lit (.int .i64 1974), .lit (.int .i64 821), .lit (.int .i64 289), .lit (.int .i64 331), .lit (.int .i64 3253), .lit (.int .i64 1756), .lit (.int .i64 1197), .lit (.int .i64 2304), .lit (.int .i64 2277), .lit (.int .i64 2055), .lit (.int .i64 650), .lit (.int .i64 1977), .lit (.int .i64 2513), .lit (.int .i64 632), .lit (.int .i64 2865), .lit (.int .i64 33), .lit (.int .i64 1320), .lit (.int .i64 1915), .lit (.int .i64 2319), .lit (.int .i64 1435), .lit (.int .i64 807), .lit (.int .i64 452), .lit (.int .i64 1438), .lit (.int .i64 2868), .lit (.int .i64 1534), .lit (.int .i64 2402), .lit (.int .i64 2647), .lit (.int .i64 2617), .lit (.int .i64 1481), .lit (.int .i64 648), .lit (.int .i64 2474), .lit (.int .i64 3110), .lit (.int .i64 1227), .lit (.int .i64 910), .lit (.int .i64 17), .lit (.int .i64 2761), .lit (.int .i64 583), .lit (.int .i64 2649), .lit (.int .i64 1637), .lit (.int .i64 723), .lit (.int .i64 2288), .lit (.int .i64 1100), .lit (.int .i64 1409), .lit (.int .i64 2662), .lit (.int .i64 3281), .lit (.int .i64 233), .lit (.int .i64 756), .lit (.int .i64 2156), .lit (.int .i64 3015), .lit (.int .i64 3050), .lit (.int .i64 1703), .lit (.int .i64 1651), .lit (.int .i64 2789), .lit (.int .i64 1789), .lit (.int .i64 1847), .lit (.int .i64 952), .lit (.int .i64 1461), .lit (.int .i64 2687), .lit (.int .i64 939), .lit (.int .i64 2308), .lit (.int .i64 2437), .lit (.int .i64 2388), .lit (.int .i64 733), .lit (.int .i64 2337), .lit (.int .i64 268), .lit (.int .i64 641), .lit (.int .i64 1584), .lit (.int .i64 2298), .lit (.int .i64 2037), .lit (.int .i64 3220), .lit (.int .i64 375), .lit (.int .i64 2549), .lit (.int .i64 2090), .lit (.int .i64 1645), .lit (.int .i64 1063), .lit (.int .i64 319), .lit (.int .i64 2773), .lit (.int .i64 757), .lit (.int .i64 2099), .lit (.int .i64 561), .lit (.int .i64 2466), .lit (.int .i64 2594), .lit (.int .i64 2804), .lit (.int .i64 1092), .lit (.int .i64 403), .lit (.int .i64 1026), .lit (.int .i64 1143), .lit (.int .i64 2150), .lit (.int .i64 2775), .lit (.int .i64 886), .lit (.int .i64 1722), .lit (.int .i64 1212), .lit (.int .i64 1874), .lit (.int .i64 1029), .lit (.int .i64 2110), .lit (.int .i64 2935), .lit (.int .i64 885), .lit (.int .i64 2154)]

/-- 'chatelainelaw4.PolyTells': WHATEVER THE INPUT: true; the input reads as it did. -/
def polyTellsSpec : ChangeSpec := { name := "polyTells", fn := fun _ => fun
  | [d1, d2] => { results := [.lit (.bool true)], args := [d1, d2] }
  | _ => none }
def polyTellsRow : OpenClaim := { program := "ytmjcgkddjgplkaadoor", sum := "0ef1500f030f068a6862f9e94b8a874410af9207a97ef9186cc33951f6b146cf", func := "chatelaine/chatelainelaw4.PolyTells", spec := "polyTells", named := ["chatelaine/ring.roots"], apart := false, laid := [("chatelaine/ring.roots", laid_chatelaine_ring_roots)] }
def PolyTellsSaid : Prop := polyTellsRow.holds Tryd.pinned (OpenSpec.ofChange polyTellsSpec)

/-- ITS FALSE NEIGHBOUR: 'it returns false'. Refute it at one input. -/
def polyTellsWrong : ChangeSpec := { name := "polyTells", fn := fun _ => fun
  | [d1, d2] => { results := [.lit (.bool false)], args := [d1, d2] }
  | _ => none }
def PolyTellsWrongFalsely : Prop := polyTellsRow.holds Tryd.pinned (OpenSpec.ofChange polyTellsWrong)

/-- 'chatelainelaw4.PolyPolys': WHATEVER THE INPUT: true; the input reads as it did. -/
def polyPolysSpec : ChangeSpec := { name := "polyPolys", fn := fun _ => fun
  | [d1, d2] => { results := [.lit (.bool true)], args := [d1, d2] }
  | _ => none }
def polyPolysRow : OpenClaim := { program := "ytmjcgkddjgplkaadoor", sum := "0ef1500f030f068a6862f9e94b8a874410af9207a97ef9186cc33951f6b146cf", func := "chatelaine/chatelainelaw4.PolyPolys", spec := "polyPolys", named := ["chatelaine/ring.roots"], apart := false, laid := [("chatelaine/ring.roots", laid_chatelaine_ring_roots)] }
def PolyPolysSaid : Prop := polyPolysRow.holds Tryd.pinned (OpenSpec.ofChange polyPolysSpec)

/-- ITS FALSE NEIGHBOUR: 'it returns false'. Refute it at one input. -/
def polyPolysWrong : ChangeSpec := { name := "polyPolys", fn := fun _ => fun
  | [d1, d2] => { results := [.lit (.bool false)], args := [d1, d2] }
  | _ => none }
def PolyPolysWrongFalsely : Prop := polyPolysRow.holds Tryd.pinned (OpenSpec.ofChange polyPolysWrong)

/-- 'chatelainelaw4.PolyDots': WHATEVER THE INPUT: true; the input reads as it did. -/
def polyDotsSpec : ChangeSpec := { name := "polyDots", fn := fun _ => fun
  | [d1, d2, d3, d4] => { results := [.lit (.bool true)], args := [d1, d2, d3, d4] }
  | _ => none }
def polyDotsRow : OpenClaim := { program := "ytmjcgkddjgplkaadoor", sum := "0ef1500f030f068a6862f9e94b8a874410af9207a97ef9186cc33951f6b146cf", func := "chatelaine/chatelainelaw4.PolyDots", spec := "polyDots", named := ["chatelaine/ring.roots"], apart := false, laid := [("chatelaine/ring.roots", laid_chatelaine_ring_roots)] }
def PolyDotsSaid : Prop := polyDotsRow.holds Tryd.pinned (OpenSpec.ofChange polyDotsSpec)

/-- ITS FALSE NEIGHBOUR: 'it returns false'. Refute it at one input. -/
def polyDotsWrong : ChangeSpec := { name := "polyDots", fn := fun _ => fun
  | [d1, d2, d3, d4] => { results := [.lit (.bool false)], args := [d1, d2, d3, d4] }
  | _ => none }
def PolyDotsWrongFalsely : Prop := polyDotsRow.holds Tryd.pinned (OpenSpec.ofChange polyDotsWrong)

/-- 'chatelainelaw4.PolyBack': WHATEVER THE INPUT: true; the input reads as it did. -/
def polyBackSpec : ChangeSpec := { name := "polyBack", fn := fun _ => fun
  | [d1, d2] => { results := [.lit (.bool true)], args := [d1, d2] }
  | _ => none }
def polyBackRow : OpenClaim := { program := "ytmjcgkddjgplkaadoor", sum := "0ef1500f030f068a6862f9e94b8a874410af9207a97ef9186cc33951f6b146cf", func := "chatelaine/chatelainelaw4.PolyBack", spec := "polyBack", named := ["chatelaine/ring.roots"], apart := false, laid := [("chatelaine/ring.roots", laid_chatelaine_ring_roots)] }
def PolyBackSaid : Prop := polyBackRow.holds Tryd.pinned (OpenSpec.ofChange polyBackSpec)

/-- ITS FALSE NEIGHBOUR: 'it returns false'. Refute it at one input. -/
def polyBackWrong : ChangeSpec := { name := "polyBack", fn := fun _ => fun
  | [d1, d2] => { results := [.lit (.bool false)], args := [d1, d2] }
  | _ => none }
def PolyBackWrongFalsely : Prop := polyBackRow.holds Tryd.pinned (OpenSpec.ofChange polyBackWrong)

/-- 'chatelainelaw4.PolyProducts': WHATEVER THE INPUT: true; the input reads as it did. -/
def polyProductsSpec : ChangeSpec := { name := "polyProducts", fn := fun _ => fun
  | [d1, d2, d3] => { results := [.lit (.bool true)], args := [d1, d2, d3] }
  | _ => none }
def polyProductsRow : OpenClaim := { program := "ytmjcgkddjgplkaadoor", sum := "0ef1500f030f068a6862f9e94b8a874410af9207a97ef9186cc33951f6b146cf", func := "chatelaine/chatelainelaw4.PolyProducts", spec := "polyProducts", named := ["chatelaine/ring.roots"], apart := false, laid := [("chatelaine/ring.roots", laid_chatelaine_ring_roots)] }
def PolyProductsSaid : Prop := polyProductsRow.holds Tryd.pinned (OpenSpec.ofChange polyProductsSpec)

/-- ITS FALSE NEIGHBOUR: 'it returns false'. Refute it at one input. -/
def polyProductsWrong : ChangeSpec := { name := "polyProducts", fn := fun _ => fun
  | [d1, d2, d3] => { results := [.lit (.bool false)], args := [d1, d2, d3] }
  | _ => none }
def PolyProductsWrongFalsely : Prop := polyProductsRow.holds Tryd.pinned (OpenSpec.ofChange polyProductsWrong)

/-- 'chatelainelaw4.PolyUnits': WHATEVER THE INPUT: true; the input reads as it did. -/
def polyUnitsSpec : ChangeSpec := { name := "polyUnits", fn := fun _ => fun
  | [d] => { results := [.lit (.bool true)], args := [d] }
  | _ => none }
def polyUnitsRow : OpenClaim := { program := "ytmjcgkddjgplkaadoor", sum := "0ef1500f030f068a6862f9e94b8a874410af9207a97ef9186cc33951f6b146cf", func := "chatelaine/chatelainelaw4.PolyUnits", spec := "polyUnits", named := ["chatelaine/ring.roots"], apart := false, laid := [("chatelaine/ring.roots", laid_chatelaine_ring_roots)] }
def PolyUnitsSaid : Prop := polyUnitsRow.holds Tryd.pinned (OpenSpec.ofChange polyUnitsSpec)

/-- ITS FALSE NEIGHBOUR: 'it returns false'. Refute it at one input. -/
def polyUnitsWrong : ChangeSpec := { name := "polyUnits", fn := fun _ => fun
  | [d] => { results := [.lit (.bool false)], args := [d] }
  | _ => none }
def PolyUnitsWrongFalsely : Prop := polyUnitsRow.holds Tryd.pinned (OpenSpec.ofChange polyUnitsWrong)

/-- 'chatelainelaw4.PolyRing': WHATEVER THE INPUT: true; the input reads as it did. -/
def polyRingSpec : ChangeSpec := { name := "polyRing", fn := fun _ => fun
  | [d1, d2, d3] => { results := [.lit (.bool true)], args := [d1, d2, d3] }
  | _ => none }
def polyRingRow : OpenClaim := { program := "ytmjcgkddjgplkaadoor", sum := "0ef1500f030f068a6862f9e94b8a874410af9207a97ef9186cc33951f6b146cf", func := "chatelaine/chatelainelaw4.PolyRing", spec := "polyRing", named := ["chatelaine/ring.roots"], apart := false, laid := [("chatelaine/ring.roots", laid_chatelaine_ring_roots)] }
def PolyRingSaid : Prop := polyRingRow.holds Tryd.pinned (OpenSpec.ofChange polyRingSpec)

/-- ITS FALSE NEIGHBOUR: 'it returns false'. Refute it at one input. -/
def polyRingWrong : ChangeSpec := { name := "polyRing", fn := fun _ => fun
  | [d1, d2, d3] => { results := [.lit (.bool false)], args := [d1, d2, d3] }
  | _ => none }
def PolyRingWrongFalsely : Prop := polyRingRow.holds Tryd.pinned (OpenSpec.ofChange polyRingWrong)

/-- 'chatelainelaw4.PolyTurns': WHATEVER THE INPUT: true; the input reads as it did. -/
def polyTurnsSpec : ChangeSpec := { name := "polyTurns", fn := fun _ => fun
  | [d1, d2] => { results := [.lit (.bool true)], args := [d1, d2] }
  | _ => none }
def polyTurnsRow : OpenClaim := { program := "ytmjcgkddjgplkaadoor", sum := "0ef1500f030f068a6862f9e94b8a874410af9207a97ef9186cc33951f6b146cf", func := "chatelaine/chatelainelaw4.PolyTurns", spec := "polyTurns", named := ["chatelaine/ring.roots"], apart := false, laid := [("chatelaine/ring.roots", laid_chatelaine_ring_roots)] }
def PolyTurnsSaid : Prop := polyTurnsRow.holds Tryd.pinned (OpenSpec.ofChange polyTurnsSpec)

/-- ITS FALSE NEIGHBOUR: 'it returns false'. Refute it at one input. -/
def polyTurnsWrong : ChangeSpec := { name := "polyTurns", fn := fun _ => fun
  | [d1, d2] => { results := [.lit (.bool false)], args := [d1, d2] }
  | _ => none }
def PolyTurnsWrongFalsely : Prop := polyTurnsRow.holds Tryd.pinned (OpenSpec.ofChange polyTurnsWrong)

/- THE SECOND FORM. 'bulk': how many values and letters a reading holds, each counted each time it is reached (what is shared counts as often as it is met; a slice's spare places count too). A statement '..UptoSaid' is the law's where the arguments, and the package variables that the reading takes, are together of bulk at most 1048576: NARROWER than '..Said'. Prove '..Said' where nothing that the law and all that it calls make is longer than what came in: it says more and counts as full. Else prove '..UptoSaid'. A law counts once. -/
mutual
def uptoBulk {H : Type} : DataW H → Nat
  | .lit (.string bytes) => bytes.length + 1
  | .lit _ => 1
  | .nil => 1
  | .ptr d => uptoBulk d + 1
  | .slice elems spare => uptoBulkAll elems + uptoBulkAll spare + 1
  | .agg parts => uptoBulkAll parts + 1
  | .iface _ d => uptoBulk d + 1
  | .map entries => uptoBulkEntries entries + 1
  | .held _ => 1
def uptoBulkAll {H : Type} : List (DataW H) → Nat
  | [] => 0
  | d :: r => uptoBulk d + uptoBulkAll r
def uptoBulkEntries {H : Type} : List (Lit × DataW H) → Nat
  | [] => 0
  | x :: r => uptoBulkEntry x + uptoBulkEntries r
def uptoBulkEntry {H : Type} : Lit × DataW H → Nat
  | (.string bytes, d) => bytes.length + uptoBulk d + 1
  | (_, d) => uptoBulk d + 1
 end
def uptoSmall : (H : Type) → List (DataW H) → Bool := fun _ ds => decide (uptoBulkAll ds ≤ 1048576)
def OpenSpec.upto (s : _root_.Go.ChangeSpec) : _root_.Go.OpenSpec := { _root_.Go.OpenSpec.ofChange s with cond := some uptoSmall }

/-- 'chatelainelaw4.PolyTells', WHERE WHAT IT READS IS OF BULK AT MOST 1048576: true; the input reads as it did. -/
def polyTellsUptoRow : OpenClaim := { program := "ytmjcgkddjgplkaadoor", sum := "0ef1500f030f068a6862f9e94b8a874410af9207a97ef9186cc33951f6b146cf", func := "chatelaine/chatelainelaw4.PolyTells", spec := "polyTells", named := ["chatelaine/ring.roots"], apart := false, laid := [("chatelaine/ring.roots", laid_chatelaine_ring_roots)], narrowed := true }
def PolyTellsUptoSaid : Prop := polyTellsUptoRow.holds Tryd.pinned (OpenSpec.upto polyTellsSpec)

/-- 'chatelainelaw4.PolyPolys', WHERE WHAT IT READS IS OF BULK AT MOST 1048576: true; the input reads as it did. -/
def polyPolysUptoRow : OpenClaim := { program := "ytmjcgkddjgplkaadoor", sum := "0ef1500f030f068a6862f9e94b8a874410af9207a97ef9186cc33951f6b146cf", func := "chatelaine/chatelainelaw4.PolyPolys", spec := "polyPolys", named := ["chatelaine/ring.roots"], apart := false, laid := [("chatelaine/ring.roots", laid_chatelaine_ring_roots)], narrowed := true }
def PolyPolysUptoSaid : Prop := polyPolysUptoRow.holds Tryd.pinned (OpenSpec.upto polyPolysSpec)

/-- 'chatelainelaw4.PolyDots', WHERE WHAT IT READS IS OF BULK AT MOST 1048576: true; the input reads as it did. -/
def polyDotsUptoRow : OpenClaim := { program := "ytmjcgkddjgplkaadoor", sum := "0ef1500f030f068a6862f9e94b8a874410af9207a97ef9186cc33951f6b146cf", func := "chatelaine/chatelainelaw4.PolyDots", spec := "polyDots", named := ["chatelaine/ring.roots"], apart := false, laid := [("chatelaine/ring.roots", laid_chatelaine_ring_roots)], narrowed := true }
def PolyDotsUptoSaid : Prop := polyDotsUptoRow.holds Tryd.pinned (OpenSpec.upto polyDotsSpec)

/-- 'chatelainelaw4.PolyBack', WHERE WHAT IT READS IS OF BULK AT MOST 1048576: true; the input reads as it did. -/
def polyBackUptoRow : OpenClaim := { program := "ytmjcgkddjgplkaadoor", sum := "0ef1500f030f068a6862f9e94b8a874410af9207a97ef9186cc33951f6b146cf", func := "chatelaine/chatelainelaw4.PolyBack", spec := "polyBack", named := ["chatelaine/ring.roots"], apart := false, laid := [("chatelaine/ring.roots", laid_chatelaine_ring_roots)], narrowed := true }
def PolyBackUptoSaid : Prop := polyBackUptoRow.holds Tryd.pinned (OpenSpec.upto polyBackSpec)

/-- 'chatelainelaw4.PolyProducts', WHERE WHAT IT READS IS OF BULK AT MOST 1048576: true; the input reads as it did. -/
def polyProductsUptoRow : OpenClaim := { program := "ytmjcgkddjgplkaadoor", sum := "0ef1500f030f068a6862f9e94b8a874410af9207a97ef9186cc33951f6b146cf", func := "chatelaine/chatelainelaw4.PolyProducts", spec := "polyProducts", named := ["chatelaine/ring.roots"], apart := false, laid := [("chatelaine/ring.roots", laid_chatelaine_ring_roots)], narrowed := true }
def PolyProductsUptoSaid : Prop := polyProductsUptoRow.holds Tryd.pinned (OpenSpec.upto polyProductsSpec)

/-- 'chatelainelaw4.PolyUnits', WHERE WHAT IT READS IS OF BULK AT MOST 1048576: true; the input reads as it did. -/
def polyUnitsUptoRow : OpenClaim := { program := "ytmjcgkddjgplkaadoor", sum := "0ef1500f030f068a6862f9e94b8a874410af9207a97ef9186cc33951f6b146cf", func := "chatelaine/chatelainelaw4.PolyUnits", spec := "polyUnits", named := ["chatelaine/ring.roots"], apart := false, laid := [("chatelaine/ring.roots", laid_chatelaine_ring_roots)], narrowed := true }
def PolyUnitsUptoSaid : Prop := polyUnitsUptoRow.holds Tryd.pinned (OpenSpec.upto polyUnitsSpec)

/-- 'chatelainelaw4.PolyRing', WHERE WHAT IT READS IS OF BULK AT MOST 1048576: true; the input reads as it did. -/
def polyRingUptoRow : OpenClaim := { program := "ytmjcgkddjgplkaadoor", sum := "0ef1500f030f068a6862f9e94b8a874410af9207a97ef9186cc33951f6b146cf", func := "chatelaine/chatelainelaw4.PolyRing", spec := "polyRing", named := ["chatelaine/ring.roots"], apart := false, laid := [("chatelaine/ring.roots", laid_chatelaine_ring_roots)], narrowed := true }
def PolyRingUptoSaid : Prop := polyRingUptoRow.holds Tryd.pinned (OpenSpec.upto polyRingSpec)

/-- 'chatelainelaw4.PolyTurns', WHERE WHAT IT READS IS OF BULK AT MOST 1048576: true; the input reads as it did. -/
def polyTurnsUptoRow : OpenClaim := { program := "ytmjcgkddjgplkaadoor", sum := "0ef1500f030f068a6862f9e94b8a874410af9207a97ef9186cc33951f6b146cf", func := "chatelaine/chatelainelaw4.PolyTurns", spec := "polyTurns", named := ["chatelaine/ring.roots"], apart := false, laid := [("chatelaine/ring.roots", laid_chatelaine_ring_roots)], narrowed := true }
def PolyTurnsUptoSaid : Prop := polyTurnsUptoRow.holds Tryd.pinned (OpenSpec.upto polyTurnsSpec)

end Rows
end Go.Proofs.YtmjcgkddjgplkaaDoor
