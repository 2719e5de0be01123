/- Contracts: errors.As and errors.Is at a Fault that is wrapped once. -/
import Derived.Test.YtmegjjfgiibobaaDoorEg
namespace Go.Proofs.YtmegjjfgiibobaaDoor
open Go.RowKit Go.Extern.Stop Go.Stop Go.Extern

set_option maxRecDepth 100000 in
set_option maxHeartbeats 4000000 in
theorem is_code_w (q : Nat) (e : Addr) (c : Int) (w : World) (hq : w.cell? ⟨q, 1, none⟩ = some (.iface 58 (.pointer (some e)))) (he : w.cell? e = some (.int .i64 c)) :
    Calls Tryd.prog 38 #[.iface 83 (.pointer (some ⟨q, 0, none⟩)), .iface 61 (.int .i64 c)] w fun ev w' => ev = .returned (.bool true) ∧ w' = w := by
  have h8 := @run_callFunc_extern Tryd.prog 49 _ Extern.ReflectliteType.typeOf Tryd.func49 (by kernel_rfl) (by kernel_rfl) (by kernel_rfl) (by kernel_rfl)
  have h32 := @run_callFunc_extern Tryd.prog 81 _ cmpE Tryd.func81 (by kernel_rfl) (by kernel_rfl) (by kernel_rfl) (by kernel_rfl)
  have tT := Tryd.typeOfErrno
  have cT := Tryd.isComparable
  have mR := Tryd.methodComparable
  have nE := Tryd.noIsF
  have nW := Tryd.noIsW
  have uWW := Tryd.unwrapW
  have mW := Tryd.methodUnwrapW
  have hneW := run_eql_iface_types (P := Tryd.prog) 83 61 (.pointer (some ⟨q, 0, none⟩)) (.int .i64 c) Tryd.underlying46 (by decide) w
  have uW := Tryd.unwrapF
  have mU := Tryd.methodUnwrap
  have hne := run_eql_iface_types (P := Tryd.prog) 58 61 (.pointer (some e)) (.int .i64 c) Tryd.underlying46 (by decide) w
  have heq := Lib.run_eql_iface_int (P := Tryd.prog) (k := .i64) w c c Tryd.underlying46 Tryd.compErrno Tryd.underlying61
  rw [beq_self_eq_true] at heq
  go_enter Tryd.func38, Tryd.ntmps38
  go_wp2
  refine wp_loop_rounds 3 ?_
  rw [rounds_succ]
  go_wp2_with (go_at_call 78; refine (wrapped_unwrap q _ _ hq).mono ?_; rintro ev w' ⟨rfl, rfl⟩)
  rw [rounds_succ]
  go_wp2_with (go_at_call 72; refine (fault_unwrap e c _ he).mono ?_; rintro ev w' ⟨rfl, rfl⟩)
  rw [rounds_succ]
  go_wp2
  go_ret
  exact ⟨rfl, rfl⟩
end Go.Proofs.YtmegjjfgiibobaaDoor
