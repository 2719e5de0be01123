/-
  NARROWER THAN 'FOR EVERY INPUT', by the rows' own cells (each row's printed sentence says how): LayNear: laid · LayBack: laid · LayHints: laid · LayPlaces: laid · LayHigh: laid.
  DERIVED. THE GIVEN ROWS OF THIS SEAT. 5 by the template 'for every input the law returns true; each argument reads behind the call as it read before'; 0 by the template 'total and deterministic' (their statements: YtoigpehpgpogfaaDoorTotals.lean).
  GIVEN WITH THE SEED: the statements are not yours to turn. If you find one false, say at which input.
  Laid BY PROGRAM, IN A SANDBOX (cutbox-rows.mjs): the forced cells as the released guide's own fill.sh prints them over the translation 8dc3a48f66e184d0… (all of the seat's roots in one cut). By AI agents, Wed Nov 11 2026. No macro, syntax, notation, axiom, sorry.
-/
import Derived.Test.YtoigpehpgpogfaaDoorChecked
import GoSem.Claim
import GoSem.ClaimJoined
import GoSem.ClaimMapViews
import Derived.JoinedTies
import Derived.KernelRfl
namespace Go.Proofs.YtoigpehpgpogfaaDoor
/- THE CELL 'sum', in the pinned program and in every row, IS THE sha256 OF THE DUMP (.gsa) THAT YtoigpehpgpogfaaDoorProg.lean LOADS. Nothing in Lean hashes anything: it is a label: what it is worth is what the hold of that sum in a sandbox is worth. -/
noncomputable def Tryd.pinned : Pinned := { name := "ytoigpehpgpogfaadoor", sum := "8dc3a48f66e184d033892c21094b941bdef0a2778e3eac60db2ebc64501f202d", checked := Tryd.checked }
namespace Rows
def none {H : Type} : Left H := { results := [], args := [] }

/- WHAT THE LISTED PACKAGE-LEVEL VARIABLES READ AS WHEN THE CALL BEGINS. Each datum BY PROGRAM (the guide's laid-datum.mjs) off the statement by which the dump's own 'gosem.cut.vars' lays the variable. In a bare row this is a premise. The card (YtoigpehpgpogfaaDoorCards.lean) ties it to the program's text. -/
def laid_errors_errorType {H : Type} : DataW H := .iface "internal/reflectlite.rtype" (.agg [.ptr (.lit (.string [101, 114, 114, 111, 114]))])

/-- 'chatelainelaw11.LayNear': WHATEVER THE INPUT: true; the input reads as it did. -/
def layNearSpec : ChangeSpec := { name := "layNear", fn := fun _ => fun
  | [d1, d2, d3, d4, d5] => { results := [.lit (.bool true)], args := [d1, d2, d3, d4, d5] }
  | _ => none }
def layNearRow : OpenClaim := { program := "ytoigpehpgpogfaadoor", sum := "8dc3a48f66e184d033892c21094b941bdef0a2778e3eac60db2ebc64501f202d", func := "chatelaine/chatelainelaw11.LayNear", spec := "layNear", inPlace := ["internal/reflectlite.ValueOf", "(internal/reflectlite.Value).Type", "(internal/reflectlite.Value).IsNil", "internal/reflectlite.TypeOf", "(internal/reflectlite.Value).Elem", "(internal/reflectlite.Value).Set"], unfollowed := true, recurses := true, named := ["errors.errorType"], apart := false, laid := [("errors.errorType", laid_errors_errorType)] }
def LayNearSaid : Prop := layNearRow.holds Tryd.pinned (OpenSpec.ofChange layNearSpec)

/-- ITS FALSE NEIGHBOUR: 'it returns false'. Refute it at one input. -/
def layNearWrong : ChangeSpec := { name := "layNear", fn := fun _ => fun
  | [d1, d2, d3, d4, d5] => { results := [.lit (.bool false)], args := [d1, d2, d3, d4, d5] }
  | _ => none }
def LayNearWrongFalsely : Prop := layNearRow.holds Tryd.pinned (OpenSpec.ofChange layNearWrong)

/-- 'chatelainelaw11.LayBack': WHATEVER THE INPUT: true; the input reads as it did. -/
def layBackSpec : ChangeSpec := { name := "layBack", fn := fun _ => fun
  | [d1, d2, d3] => { results := [.lit (.bool true)], args := [d1, d2, d3] }
  | _ => none }
def layBackRow : OpenClaim := { program := "ytoigpehpgpogfaadoor", sum := "8dc3a48f66e184d033892c21094b941bdef0a2778e3eac60db2ebc64501f202d", func := "chatelaine/chatelainelaw11.LayBack", spec := "layBack", inPlace := ["internal/reflectlite.ValueOf", "(internal/reflectlite.Value).Type", "(internal/reflectlite.Value).IsNil", "internal/reflectlite.TypeOf", "(internal/reflectlite.Value).Elem", "(internal/reflectlite.Value).Set"], unfollowed := true, recurses := true, named := ["errors.errorType"], apart := false, laid := [("errors.errorType", laid_errors_errorType)] }
def LayBackSaid : Prop := layBackRow.holds Tryd.pinned (OpenSpec.ofChange layBackSpec)

/-- ITS FALSE NEIGHBOUR: 'it returns false'. Refute it at one input. -/
def layBackWrong : ChangeSpec := { name := "layBack", fn := fun _ => fun
  | [d1, d2, d3] => { results := [.lit (.bool false)], args := [d1, d2, d3] }
  | _ => none }
def LayBackWrongFalsely : Prop := layBackRow.holds Tryd.pinned (OpenSpec.ofChange layBackWrong)

/-- 'chatelainelaw11.LayHints': WHATEVER THE INPUT: true; the input reads as it did. -/
def layHintsSpec : ChangeSpec := { name := "layHints", fn := fun _ => fun
  | [d1, d2, d3] => { results := [.lit (.bool true)], args := [d1, d2, d3] }
  | _ => none }
def layHintsRow : OpenClaim := { program := "ytoigpehpgpogfaadoor", sum := "8dc3a48f66e184d033892c21094b941bdef0a2778e3eac60db2ebc64501f202d", func := "chatelaine/chatelainelaw11.LayHints", spec := "layHints", inPlace := ["internal/reflectlite.ValueOf", "(internal/reflectlite.Value).Type", "(internal/reflectlite.Value).IsNil", "internal/reflectlite.TypeOf", "(internal/reflectlite.Value).Elem", "(internal/reflectlite.Value).Set"], unfollowed := true, recurses := true, named := ["errors.errorType"], apart := false, laid := [("errors.errorType", laid_errors_errorType)] }
def LayHintsSaid : Prop := layHintsRow.holds Tryd.pinned (OpenSpec.ofChange layHintsSpec)

/-- ITS FALSE NEIGHBOUR: 'it returns false'. Refute it at one input. -/
def layHintsWrong : ChangeSpec := { name := "layHints", fn := fun _ => fun
  | [d1, d2, d3] => { results := [.lit (.bool false)], args := [d1, d2, d3] }
  | _ => none }
def LayHintsWrongFalsely : Prop := layHintsRow.holds Tryd.pinned (OpenSpec.ofChange layHintsWrong)

/-- 'chatelainelaw11.LayPlaces': WHATEVER THE INPUT: true; the input reads as it did. -/
def layPlacesSpec : ChangeSpec := { name := "layPlaces", fn := fun _ => fun
  | [d1, d2, d3, d4] => { results := [.lit (.bool true)], args := [d1, d2, d3, d4] }
  | _ => none }
def layPlacesRow : OpenClaim := { program := "ytoigpehpgpogfaadoor", sum := "8dc3a48f66e184d033892c21094b941bdef0a2778e3eac60db2ebc64501f202d", func := "chatelaine/chatelainelaw11.LayPlaces", spec := "layPlaces", inPlace := ["internal/reflectlite.ValueOf", "(internal/reflectlite.Value).Type", "(internal/reflectlite.Value).IsNil", "internal/reflectlite.TypeOf", "(internal/reflectlite.Value).Elem", "(internal/reflectlite.Value).Set"], unfollowed := true, recurses := true, named := ["errors.errorType"], apart := false, laid := [("errors.errorType", laid_errors_errorType)] }
def LayPlacesSaid : Prop := layPlacesRow.holds Tryd.pinned (OpenSpec.ofChange layPlacesSpec)

/-- ITS FALSE NEIGHBOUR: 'it returns false'. Refute it at one input. -/
def layPlacesWrong : ChangeSpec := { name := "layPlaces", fn := fun _ => fun
  | [d1, d2, d3, d4] => { results := [.lit (.bool false)], args := [d1, d2, d3, d4] }
  | _ => none }
def LayPlacesWrongFalsely : Prop := layPlacesRow.holds Tryd.pinned (OpenSpec.ofChange layPlacesWrong)

/-- 'chatelainelaw11.LayHigh': WHATEVER THE INPUT: true; the input reads as it did. -/
def layHighSpec : ChangeSpec := { name := "layHigh", fn := fun _ => fun
  | [d1, d2, d3, d4] => { results := [.lit (.bool true)], args := [d1, d2, d3, d4] }
  | _ => none }
def layHighRow : OpenClaim := { program := "ytoigpehpgpogfaadoor", sum := "8dc3a48f66e184d033892c21094b941bdef0a2778e3eac60db2ebc64501f202d", func := "chatelaine/chatelainelaw11.LayHigh", spec := "layHigh", inPlace := ["internal/reflectlite.ValueOf", "(internal/reflectlite.Value).Type", "(internal/reflectlite.Value).IsNil", "internal/reflectlite.TypeOf", "(internal/reflectlite.Value).Elem", "(internal/reflectlite.Value).Set"], unfollowed := true, recurses := true, named := ["errors.errorType"], apart := false, laid := [("errors.errorType", laid_errors_errorType)] }
def LayHighSaid : Prop := layHighRow.holds Tryd.pinned (OpenSpec.ofChange layHighSpec)

/-- ITS FALSE NEIGHBOUR: 'it returns false'. Refute it at one input. -/
def layHighWrong : ChangeSpec := { name := "layHigh", fn := fun _ => fun
  | [d1, d2, d3, d4] => { results := [.lit (.bool false)], args := [d1, d2, d3, d4] }
  | _ => none }
def LayHighWrongFalsely : Prop := layHighRow.holds Tryd.pinned (OpenSpec.ofChange layHighWrong)

/- THE SECOND FORM. 'bulk': how many values and letters a reading holds, each counted each time it is reached (what is shared counts as often as it is met; a slice's spare places count too). A statement '..UptoSaid' is the law's where the arguments, and the package variables that the reading takes, are together of bulk at most 1048576: NARROWER than '..Said'. Prove '..Said' where nothing that the law and all that it calls make is longer than what came in: it says more and counts as full. Else prove '..UptoSaid'. A law counts once. -/
mutual
def uptoBulk {H : Type} : DataW H → Nat
  | .lit (.string bytes) => bytes.length + 1
  | .lit _ => 1
  | .nil => 1
  | .ptr d => uptoBulk d + 1
  | .slice elems spare => uptoBulkAll elems + uptoBulkAll spare + 1
  | .agg parts => uptoBulkAll parts + 1
  | .iface _ d => uptoBulk d + 1
  | .map entries => uptoBulkEntries entries + 1
  | .held _ => 1
def uptoBulkAll {H : Type} : List (DataW H) → Nat
  | [] => 0
  | d :: r => uptoBulk d + uptoBulkAll r
def uptoBulkEntries {H : Type} : List (Lit × DataW H) → Nat
  | [] => 0
  | x :: r => uptoBulkEntry x + uptoBulkEntries r
def uptoBulkEntry {H : Type} : Lit × DataW H → Nat
  | (.string bytes, d) => bytes.length + uptoBulk d + 1
  | (_, d) => uptoBulk d + 1
 end
def uptoSmall : (H : Type) → List (DataW H) → Bool := fun _ ds => decide (uptoBulkAll ds ≤ 1048576)
def OpenSpec.upto (s : _root_.Go.ChangeSpec) : _root_.Go.OpenSpec := { _root_.Go.OpenSpec.ofChange s with cond := some uptoSmall }

/-- 'chatelainelaw11.LayNear', WHERE WHAT IT READS IS OF BULK AT MOST 1048576: true; the input reads as it did. -/
def layNearUptoRow : OpenClaim := { program := "ytoigpehpgpogfaadoor", sum := "8dc3a48f66e184d033892c21094b941bdef0a2778e3eac60db2ebc64501f202d", func := "chatelaine/chatelainelaw11.LayNear", spec := "layNear", inPlace := ["internal/reflectlite.ValueOf", "(internal/reflectlite.Value).Type", "(internal/reflectlite.Value).IsNil", "internal/reflectlite.TypeOf", "(internal/reflectlite.Value).Elem", "(internal/reflectlite.Value).Set"], unfollowed := true, recurses := true, named := ["errors.errorType"], apart := false, laid := [("errors.errorType", laid_errors_errorType)], narrowed := true }
def LayNearUptoSaid : Prop := layNearUptoRow.holds Tryd.pinned (OpenSpec.upto layNearSpec)

/-- 'chatelainelaw11.LayBack', WHERE WHAT IT READS IS OF BULK AT MOST 1048576: true; the input reads as it did. -/
def layBackUptoRow : OpenClaim := { program := "ytoigpehpgpogfaadoor", sum := "8dc3a48f66e184d033892c21094b941bdef0a2778e3eac60db2ebc64501f202d", func := "chatelaine/chatelainelaw11.LayBack", spec := "layBack", inPlace := ["internal/reflectlite.ValueOf", "(internal/reflectlite.Value).Type", "(internal/reflectlite.Value).IsNil", "internal/reflectlite.TypeOf", "(internal/reflectlite.Value).Elem", "(internal/reflectlite.Value).Set"], unfollowed := true, recurses := true, named := ["errors.errorType"], apart := false, laid := [("errors.errorType", laid_errors_errorType)], narrowed := true }
def LayBackUptoSaid : Prop := layBackUptoRow.holds Tryd.pinned (OpenSpec.upto layBackSpec)

/-- 'chatelainelaw11.LayHints', WHERE WHAT IT READS IS OF BULK AT MOST 1048576: true; the input reads as it did. -/
def layHintsUptoRow : OpenClaim := { program := "ytoigpehpgpogfaadoor", sum := "8dc3a48f66e184d033892c21094b941bdef0a2778e3eac60db2ebc64501f202d", func := "chatelaine/chatelainelaw11.LayHints", spec := "layHints", inPlace := ["internal/reflectlite.ValueOf", "(internal/reflectlite.Value).Type", "(internal/reflectlite.Value).IsNil", "internal/reflectlite.TypeOf", "(internal/reflectlite.Value).Elem", "(internal/reflectlite.Value).Set"], unfollowed := true, recurses := true, named := ["errors.errorType"], apart := false, laid := [("errors.errorType", laid_errors_errorType)], narrowed := true }
def LayHintsUptoSaid : Prop := layHintsUptoRow.holds Tryd.pinned (OpenSpec.upto layHintsSpec)

/-- 'chatelainelaw11.LayPlaces', WHERE WHAT IT READS IS OF BULK AT MOST 1048576: true; the input reads as it did. -/
def layPlacesUptoRow : OpenClaim := { program := "ytoigpehpgpogfaadoor", sum := "8dc3a48f66e184d033892c21094b941bdef0a2778e3eac60db2ebc64501f202d", func := "chatelaine/chatelainelaw11.LayPlaces", spec := "layPlaces", inPlace := ["internal/reflectlite.ValueOf", "(internal/reflectlite.Value).Type", "(internal/reflectlite.Value).IsNil", "internal/reflectlite.TypeOf", "(internal/reflectlite.Value).Elem", "(internal/reflectlite.Value).Set"], unfollowed := true, recurses := true, named := ["errors.errorType"], apart := false, laid := [("errors.errorType", laid_errors_errorType)], narrowed := true }
def LayPlacesUptoSaid : Prop := layPlacesUptoRow.holds Tryd.pinned (OpenSpec.upto layPlacesSpec)

/-- 'chatelainelaw11.LayHigh', WHERE WHAT IT READS IS OF BULK AT MOST 1048576: true; the input reads as it did. -/
def layHighUptoRow : OpenClaim := { program := "ytoigpehpgpogfaadoor", sum := "8dc3a48f66e184d033892c21094b941bdef0a2778e3eac60db2ebc64501f202d", func := "chatelaine/chatelainelaw11.LayHigh", spec := "layHigh", inPlace := ["internal/reflectlite.ValueOf", "(internal/reflectlite.Value).Type", "(internal/reflectlite.Value).IsNil", "internal/reflectlite.TypeOf", "(internal/reflectlite.Value).Elem", "(internal/reflectlite.Value).Set"], unfollowed := true, recurses := true, named := ["errors.errorType"], apart := false, laid := [("errors.errorType", laid_errors_errorType)], narrowed := true }
def LayHighUptoSaid : Prop := layHighUptoRow.holds Tryd.pinned (OpenSpec.upto layHighSpec)

end Rows
end Go.Proofs.YtoigpehpgpogfaaDoor
