/- Contract: errors.Is at a Fault and its own Errno; the Errno of an error. -/
import Derived.Test.YtealebeacddbbaaDoorEc
import Derived.Lib.IfaceEq
namespace Go.Proofs.YtealebeacddbbaaDoor
open Go.RowKit Go.Extern.Stop Go.Stop Go.Extern

/-- the model's entry for Comparable, by a name -/
def cmpE : Array Value → Sem Value := Extern.ReflectliteType.method fun t => do Rtype.noPackHeld "Comparable" t; pure (.bool (← typeInfo t).comparable)
theorem Tryd.isComparable (w : World) : (cmpE #[.agg #[.pointer (some ⟨1, 52, none⟩)]]).run Tryd.prog w = .ok (.bool true) w := by kernel_rfl
theorem Tryd.methodComparable (v : Value) (w : World) : (Go.method 241 95 v "Comparable").run Tryd.prog w = .ok (75, v) w := by kernel_rfl
theorem Tryd.compErrno : (Tryd.prog.info? 52).map (·.comparable) = some true := by kernel_rfl

set_option maxRecDepth 100000 in
set_option maxHeartbeats 4000000 in
theorem is_code (e : Addr) (c : Int) (w : World) (he : w.cell? e = some (.int .i64 c)) :
    Calls Tryd.prog 22 #[.iface 49 (.pointer (some e)), .iface 52 (.int .i64 c)] w fun ev w' => ev = .returned (.bool true) ∧ w' = w := by
  have h8 := @run_callFunc_extern Tryd.prog 35 _ Extern.ReflectliteType.typeOf Tryd.func35 (by kernel_rfl) (by kernel_rfl) (by kernel_rfl) (by kernel_rfl)
  have h32 := @run_callFunc_extern Tryd.prog 75 _ cmpE Tryd.func75 (by kernel_rfl) (by kernel_rfl) (by kernel_rfl) (by kernel_rfl)
  have tT := Tryd.typeOfErrno
  have cT := Tryd.isComparable
  have mR := Tryd.methodComparable
  have nE := Tryd.noIsF
  have uW := Tryd.unwrapF
  have mU := Tryd.methodUnwrap
  have hne := run_eql_iface_types (P := Tryd.prog) 49 52 (.pointer (some e)) (.int .i64 c) Tryd.underlying34 (by decide) w
  have heq := Lib.run_eql_iface_int (P := Tryd.prog) (k := .i64) w c c Tryd.underlying34 Tryd.compErrno Tryd.underlying52
  rw [beq_self_eq_true] at heq
  go_enter Tryd.func22, Tryd.ntmps22
  go_wp2
  refine wp_loop_rounds 2 ?_
  rw [rounds_succ]
  go_wp2_with (go_at_call 66; refine (fault_unwrap e c _ he).mono ?_; rintro ev w' ⟨rfl, rfl⟩)
  rw [rounds_succ]
  go_wp2
  go_ret
  exact ⟨rfl, rfl⟩
end Go.Proofs.YtealebeacddbbaaDoor
