/- Contracts of the functions of ring, and of the document's own answers. -/
import Derived.Test.YtlaejnbkgikfcaaDoorRows
import Derived.Test.YtlaejnbkgikfcaaDoorMath
import Derived.WalkKit
import Derived.WalkSpells
import Derived.IntWalk
import Derived.Lib.Hide
namespace Go.Proofs.YtlaejnbkgikfcaaDoor
open Go.RowKit Ring

theorem ret_int {k : IntKind} {a b : Int} (h : a = b) : Ending.returned (.int k a) = .returned (.int k b) := by rw [h]

set_option maxHeartbeats 400000 in
theorem of_any (x : Int) (w : World) :
    Calls Tryd.prog 10 #[.int .i64 x] w fun e w' => e = .returned (.int .i64 (rOf x)) ∧ w = w' := by
  have h0 := tmod_lo x
  have h1 := tmod_hi x
  go_enter Tryd.func10, Tryd.ntmps10
  by_cases h : x.tmod 3329 < 0
  · go_wp2
    go_ret
    exact ⟨ret_int (tmod_neg x h), rfl⟩
  · have h' : 0 ≤ x.tmod 3329 := by omega
    go_wp2
    go_ret
    exact ⟨ret_int (tmod_pos x h'), rfl⟩

set_option maxHeartbeats 400000 in
theorem refOf_any (x : Int) (w : World) :
    Calls Tryd.prog 11 #[.int .i64 x] w fun e w' => e = .returned (.int .i64 (rOf x)) ∧ w = w' := by
  have h0 := tmod_lo x
  have h1 := tmod_hi x
  go_enter Tryd.func11, Tryd.ntmps11
  go_wp2
  go_ret
  exact ⟨ret_int (tmod_ref x), rfl⟩

set_option maxHeartbeats 400000 in
theorem add_any (a b : Int) (w : World) :
    Calls Tryd.prog 12 #[.int .i64 a, .int .i64 b] w fun e w' => e = .returned (.int .i64 (rAdd a b)) ∧ w = w' := by
  have a0 := rOf_lo a
  have a1 := rOf_hi a
  have b0 := rOf_lo b
  have b1 := rOf_hi b
  go_enter Tryd.func12, Tryd.ntmps12
  go_wp2_with (go_at_call 10; refine (of_any _ _).mono ?_; rintro e w' ⟨rfl, rfl⟩)
  go_ret
  exact ⟨ret_int (rAdd_of a b), rfl⟩

set_option maxHeartbeats 400000 in
theorem refAdd_any (a b : Int) (w : World) :
    Calls Tryd.prog 13 #[.int .i64 a, .int .i64 b] w fun e w' => e = .returned (.int .i64 (rAdd a b)) ∧ w = w' := by
  have a0 := rOf_lo a
  have a1 := rOf_hi a
  have b0 := rOf_lo b
  have b1 := rOf_hi b
  go_enter Tryd.func13, Tryd.ntmps13
  go_wp2_with (go_at_call 11; refine (refOf_any _ _).mono ?_; rintro e w' ⟨rfl, rfl⟩)
  go_ret
  exact ⟨ret_int (rAdd_of a b), rfl⟩

set_option maxHeartbeats 400000 in
theorem sub_any (a b : Int) (w : World) :
    Calls Tryd.prog 14 #[.int .i64 a, .int .i64 b] w fun e w' => e = .returned (.int .i64 (rSub a b)) ∧ w = w' := by
  have a0 := rOf_lo a
  have a1 := rOf_hi a
  have b0 := rOf_lo b
  have b1 := rOf_hi b
  go_enter Tryd.func14, Tryd.ntmps14
  go_wp2_with (go_at_call 10; refine (of_any _ _).mono ?_; rintro e w' ⟨rfl, rfl⟩)
  go_ret
  exact ⟨ret_int (rSub_of a b), rfl⟩

set_option maxHeartbeats 400000 in
theorem refSub_any (a b : Int) (w : World) :
    Calls Tryd.prog 15 #[.int .i64 a, .int .i64 b] w fun e w' => e = .returned (.int .i64 (rSub a b)) ∧ w = w' := by
  have a0 := rOf_lo a
  have a1 := rOf_hi a
  have b0 := rOf_lo b
  have b1 := rOf_hi b
  go_enter Tryd.func15, Tryd.ntmps15
  go_wp2_with (go_at_call 11; refine (refOf_any _ _).mono ?_; rintro e w' ⟨rfl, rfl⟩)
  go_ret
  exact ⟨ret_int (rSub_of a b), rfl⟩

set_option maxHeartbeats 400000 in
theorem mul_any (a b : Int) (w : World) :
    Calls Tryd.prog 16 #[.int .i64 a, .int .i64 b] w fun e w' => e = .returned (.int .i64 (rMul a b)) ∧ w = w' := by
  obtain ⟨p0, p1⟩ := prod_bd (rOf a) (rOf b) (rOf_lo a) (rOf_hi a) (rOf_lo b) (rOf_hi b)
  go_enter Tryd.func16, Tryd.ntmps16
  go_wp2_with (go_at_call 10; refine (of_any _ _).mono ?_; rintro e w' ⟨rfl, rfl⟩)
  go_ret
  exact ⟨ret_int (rMul_of a b), rfl⟩

set_option maxHeartbeats 400000 in
theorem refMul_any (a b : Int) (w : World) :
    Calls Tryd.prog 17 #[.int .i64 a, .int .i64 b] w fun e w' => e = .returned (.int .i64 (rMul a b)) ∧ w = w' := by
  obtain ⟨p0, p1⟩ := prod_bd (rOf a) (rOf b) (rOf_lo a) (rOf_hi a) (rOf_lo b) (rOf_hi b)
  go_enter Tryd.func17, Tryd.ntmps17
  go_wp2_with (go_at_call 11; refine (refOf_any _ _).mono ?_; rintro e w' ⟨rfl, rfl⟩)
  go_ret
  exact ⟨ret_int (rMul_of a b), rfl⟩

end Go.Proofs.YtlaejnbkgikfcaaDoor
