/- Contracts: errors.As and errors.Is at a Fault that is wrapped once. -/
import Derived.Test.YtlikjchaamimcaaDoorEg
namespace Go.Proofs.YtlikjchaamimcaaDoor
open Go.RowKit Go.Extern.Stop Go.Stop Go.Extern

set_option maxRecDepth 100000 in
set_option maxHeartbeats 4000000 in
theorem is_code_w (q : Nat) (e : Addr) (c : Int) (w : World) (hq : w.cell? ⟨q, 1, none⟩ = some (.iface 40 (.pointer (some e)))) (he : w.cell? e = some (.int .i64 c)) :
    Calls Tryd.prog 20 #[.iface 49 (.pointer (some ⟨q, 0, none⟩)), .iface 43 (.int .i64 c)] w fun ev w' => ev = .returned (.bool true) ∧ w' = w := by
  have h8 := @run_callFunc_extern Tryd.prog 27 _ Extern.ReflectliteType.typeOf Tryd.func27 (by kernel_rfl) (by kernel_rfl) (by kernel_rfl) (by kernel_rfl)
  have h32 := @run_callFunc_extern Tryd.prog 58 _ cmpE Tryd.func58 (by kernel_rfl) (by kernel_rfl) (by kernel_rfl) (by kernel_rfl)
  have tT := Tryd.typeOfErrno
  have cT := Tryd.isComparable
  have mR := Tryd.methodComparable
  have nE := Tryd.noIsF
  have nW := Tryd.noIsW
  have uWW := Tryd.unwrapW
  have mW := Tryd.methodUnwrapW
  have hneW := run_eql_iface_types (P := Tryd.prog) 49 43 (.pointer (some ⟨q, 0, none⟩)) (.int .i64 c) Tryd.underlying24 (by decide) w
  have uW := Tryd.unwrapF
  have mU := Tryd.methodUnwrap
  have hne := run_eql_iface_types (P := Tryd.prog) 40 43 (.pointer (some e)) (.int .i64 c) Tryd.underlying24 (by decide) w
  have heq := Lib.run_eql_iface_int (P := Tryd.prog) (k := .i64) w c c Tryd.underlying24 Tryd.compErrno Tryd.underlying43
  rw [beq_self_eq_true] at heq
  go_enter Tryd.func20, Tryd.ntmps20
  go_wp2
  refine wp_loop_rounds 3 ?_
  rw [rounds_succ]
  go_wp2_with (go_at_call 52; refine (wrapped_unwrap q _ _ hq).mono ?_; rintro ev w' ⟨rfl, rfl⟩)
  rw [rounds_succ]
  go_wp2_with (go_at_call 49; refine (fault_unwrap e c _ he).mono ?_; rintro ev w' ⟨rfl, rfl⟩)
  rw [rounds_succ]
  go_wp2
  go_ret
  exact ⟨rfl, rfl⟩
end Go.Proofs.YtlikjchaamimcaaDoor
