/- Contracts: errors.As and errors.Is at a Fault that is wrapped once. -/
import Derived.Test.YtealebeacddbbaaDoorEg
namespace Go.Proofs.YtealebeacddbbaaDoor
open Go.RowKit Go.Extern.Stop Go.Stop Go.Extern

set_option maxRecDepth 100000 in
set_option maxHeartbeats 4000000 in
theorem is_code_w (q : Nat) (e : Addr) (c : Int) (w : World) (hq : w.cell? ⟨q, 1, none⟩ = some (.iface 49 (.pointer (some e)))) (he : w.cell? e = some (.int .i64 c)) :
    Calls Tryd.prog 22 #[.iface 68 (.pointer (some ⟨q, 0, none⟩)), .iface 52 (.int .i64 c)] w fun ev w' => ev = .returned (.bool true) ∧ w' = w := by
  have h8 := @run_callFunc_extern Tryd.prog 35 _ Extern.ReflectliteType.typeOf Tryd.func35 (by kernel_rfl) (by kernel_rfl) (by kernel_rfl) (by kernel_rfl)
  have h32 := @run_callFunc_extern Tryd.prog 75 _ cmpE Tryd.func75 (by kernel_rfl) (by kernel_rfl) (by kernel_rfl) (by kernel_rfl)
  have tT := Tryd.typeOfErrno
  have cT := Tryd.isComparable
  have mR := Tryd.methodComparable
  have nE := Tryd.noIsF
  have nW := Tryd.noIsW
  have uWW := Tryd.unwrapW
  have mW := Tryd.methodUnwrapW
  have hneW := run_eql_iface_types (P := Tryd.prog) 68 52 (.pointer (some ⟨q, 0, none⟩)) (.int .i64 c) Tryd.underlying34 (by decide) w
  have uW := Tryd.unwrapF
  have mU := Tryd.methodUnwrap
  have hne := run_eql_iface_types (P := Tryd.prog) 49 52 (.pointer (some e)) (.int .i64 c) Tryd.underlying34 (by decide) w
  have heq := Lib.run_eql_iface_int (P := Tryd.prog) (k := .i64) w c c Tryd.underlying34 Tryd.compErrno Tryd.underlying52
  rw [beq_self_eq_true] at heq
  go_enter Tryd.func22, Tryd.ntmps22
  go_wp2
  refine wp_loop_rounds 3 ?_
  rw [rounds_succ]
  go_wp2_with (go_at_call 69; refine (wrapped_unwrap q _ _ hq).mono ?_; rintro ev w' ⟨rfl, rfl⟩)
  rw [rounds_succ]
  go_wp2_with (go_at_call 66; refine (fault_unwrap e c _ he).mono ?_; rintro ev w' ⟨rfl, rfl⟩)
  rw [rounds_succ]
  go_wp2
  go_ret
  exact ⟨rfl, rfl⟩
end Go.Proofs.YtealebeacddbbaaDoor
