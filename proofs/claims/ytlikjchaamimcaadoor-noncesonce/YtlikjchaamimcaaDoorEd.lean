/- Contract: errors.Is at a Fault and its own Errno; the Errno of an error. -/
import Derived.Test.YtlikjchaamimcaaDoorEc
import Derived.Lib.IfaceEq
namespace Go.Proofs.YtlikjchaamimcaaDoor
open Go.RowKit Go.Extern.Stop Go.Stop Go.Extern

/-- the model's entry for Comparable, by a name -/
def cmpE : Array Value → Sem Value := Extern.ReflectliteType.method fun t => do Rtype.noPackHeld "Comparable" t; pure (.bool (← typeInfo t).comparable)
theorem Tryd.isComparable (w : World) : (cmpE #[.agg #[.pointer (some ⟨1, 43, none⟩)]]).run Tryd.prog w = .ok (.bool true) w := by kernel_rfl
theorem Tryd.methodComparable (v : Value) (w : World) : (Go.method 213 68 v "Comparable").run Tryd.prog w = .ok (58, v) w := by kernel_rfl
theorem Tryd.compErrno : (Tryd.prog.info? 43).map (·.comparable) = some true := by kernel_rfl

set_option maxRecDepth 100000 in
set_option maxHeartbeats 4000000 in
theorem is_code (e : Addr) (c : Int) (w : World) (he : w.cell? e = some (.int .i64 c)) :
    Calls Tryd.prog 20 #[.iface 40 (.pointer (some e)), .iface 43 (.int .i64 c)] w fun ev w' => ev = .returned (.bool true) ∧ w' = w := by
  have h8 := @run_callFunc_extern Tryd.prog 27 _ Extern.ReflectliteType.typeOf Tryd.func27 (by kernel_rfl) (by kernel_rfl) (by kernel_rfl) (by kernel_rfl)
  have h32 := @run_callFunc_extern Tryd.prog 58 _ cmpE Tryd.func58 (by kernel_rfl) (by kernel_rfl) (by kernel_rfl) (by kernel_rfl)
  have tT := Tryd.typeOfErrno
  have cT := Tryd.isComparable
  have mR := Tryd.methodComparable
  have nE := Tryd.noIsF
  have uW := Tryd.unwrapF
  have mU := Tryd.methodUnwrap
  have hne := run_eql_iface_types (P := Tryd.prog) 40 43 (.pointer (some e)) (.int .i64 c) Tryd.underlying24 (by decide) w
  have heq := Lib.run_eql_iface_int (P := Tryd.prog) (k := .i64) w c c Tryd.underlying24 Tryd.compErrno Tryd.underlying43
  rw [beq_self_eq_true] at heq
  go_enter Tryd.func20, Tryd.ntmps20
  go_wp2
  refine wp_loop_rounds 2 ?_
  rw [rounds_succ]
  go_wp2_with (go_at_call 49; refine (fault_unwrap e c _ he).mono ?_; rintro ev w' ⟨rfl, rfl⟩)
  rw [rounds_succ]
  go_wp2
  go_ret
  exact ⟨rfl, rfl⟩
end Go.Proofs.YtlikjchaamimcaaDoor
