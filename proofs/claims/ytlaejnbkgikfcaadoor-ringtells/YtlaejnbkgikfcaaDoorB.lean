/- Contracts of the powers. -/
import Derived.Test.YtlaejnbkgikfcaaDoorA
import Derived.Test.YtlaejnbkgikfcaaDoorBits
namespace Go.Proofs.YtlaejnbkgikfcaaDoor
open Go.RowKit Ring

theorem half_int (k : Nat) : Value.int IntKind.i64 ((k : Int) / 2) = .int .i64 ((k / 2 : Nat) : Int) := rfl

set_option maxHeartbeats 400000 in
theorem pow_pos (a : Int) (n : Nat) (w : World) (hn : n ≤ 9223372036854775807) :
    Calls Tryd.prog 18 #[.int .i64 a, .int .i64 n] w fun e w' => e = .returned (.int .i64 (rPow a n)) ∧ w = w' := by
  have hs := powInv_start a n
  have a0 := rOf_lo a
  have a1 := rOf_hi a
  go_enter Tryd.func18, Tryd.ntmps18
  go_wp2_with (go_at_call 10; refine (of_any _ _).mono ?_; rintro e w' ⟨rfl, rfl⟩)
  go_loop [1, 5, 6] (fun n' p' s' => ∃ (k : Nat) (p s : Int), k ≤ 9223372036854775807 ∧ 0 ≤ p ∧ p ≤ 3328 ∧ 0 ≤ s ∧ s ≤ 3328 ∧ n' = .int .i64 k ∧ p' = .int .i64 p ∧ s' = .int .i64 s ∧ PowInv (rPow a n) p s k) (fun n' _ _ => (intOf n').toNat)
  case atStart => exact ⟨n, 1, rOf a, hn, by omega, by omega, a0, a1, rfl, rfl, rfl, hs⟩
  case round =>
    obtain ⟨k, p, s, hk, p0, p1, s0, s1, rfl, rfl, rfl, hi⟩ := hrel
    by_cases hlt : 0 < k
    · have hm0 := rMul_lo p s
      have hm1 := rMul_hi p s
      have hq0 := rMul_lo s s
      have hq1 := rMul_hi s s
      by_cases hp : k % 2 = 1
      · have hj : PowInv (rPow a n) (rMul p s) (rMul s s) (k / 2) := powInv_odd hi (by omega)
        have hb : (bits BinOp.and IntKind.i64 (k : Int) 1 == 1) = true := by rw [and1]; simp; omega
        clear hp
        go_wp2_with (go_at_call 16; refine (mul_any _ _ _).mono ?_; rintro e w' ⟨rfl, rfl⟩)
        go_round
        case rel => exact ⟨k / 2, _, _, by omega, hm0, hm1, hq0, hq1, rfl, rfl, rfl, hj⟩
        case measure => simp [intOf]; omega
      · have hj : PowInv (rPow a n) p (rMul s s) (k / 2) := powInv_even hi (by omega)
        have hb : (bits BinOp.and IntKind.i64 (k : Int) 1 == 1) = false := by rw [and1]; simp; omega
        clear hp
        go_wp2_with (go_at_call 16; refine (mul_any _ _ _).mono ?_; rintro e w' ⟨rfl, rfl⟩)
        go_round
        case rel => exact ⟨k / 2, _, _, by omega, p0, p1, hq0, hq1, rfl, rfl, rfl, hj⟩
        case measure => simp [intOf]; omega
    · obtain rfl : k = 0 := by omega
      have hr := Lib.hid (powInv_end hi p0 p1)
      go_wp2
      go_ret
      exact ⟨ret_int hr.out, rfl⟩

set_option maxHeartbeats 400000 in
theorem pow_neg (a n : Int) (w : World) (hn : n < 0) :
    Calls Tryd.prog 18 #[.int .i64 a, .int .i64 n] w fun e w' => e = .returned (.int .i64 (rPow a n)) ∧ w = w' := by
  have hr := Lib.hid (rPow_neg a n hn)
  go_enter Tryd.func18, Tryd.ntmps18
  go_wp2
  go_ret
  exact ⟨ret_int hr.out.symm, rfl⟩

theorem pow_any (a n : Int) (w : World) (hn : n ≤ 9223372036854775807) :
    Calls Tryd.prog 18 #[.int .i64 a, .int .i64 n] w fun e w' => e = .returned (.int .i64 (rPow a n)) ∧ w = w' := by
  by_cases h : n < 0
  · exact pow_neg a n w h
  · obtain ⟨m, rfl⟩ : ∃ m : Nat, n = m := ⟨n.toNat, by omega⟩
    exact pow_pos a m w (by omega)

set_option maxHeartbeats 400000 in
theorem refPow_pos (a : Int) (n : Nat) (w : World) (hn : n ≤ 9223372036854775807) :
    Calls Tryd.prog 19 #[.int .i64 a, .int .i64 n] w fun e w' => e = .returned (.int .i64 (rPow a n)) ∧ w = w' := by
  have hs := powInv_start a n
  have a0 := rOf_lo a
  have a1 := rOf_hi a
  go_enter Tryd.func19, Tryd.ntmps19
  go_wp2_with (go_at_call 11; refine (refOf_any _ _).mono ?_; rintro e w' ⟨rfl, rfl⟩)
  go_loop [1, 5, 6] (fun n' p' s' => ∃ (k : Nat) (p s : Int), k ≤ 9223372036854775807 ∧ 0 ≤ p ∧ p ≤ 3328 ∧ 0 ≤ s ∧ s ≤ 3328 ∧ n' = .int .i64 k ∧ p' = .int .i64 p ∧ s' = .int .i64 s ∧ PowInv (rPow a n) p s k) (fun n' _ _ => (intOf n').toNat)
  case atStart => exact ⟨n, 1, rOf a, hn, by omega, by omega, a0, a1, rfl, rfl, rfl, hs⟩
  case round =>
    obtain ⟨k, p, s, hk, p0, p1, s0, s1, rfl, rfl, rfl, hi⟩ := hrel
    by_cases hlt : 0 < k
    · have hm0 := rMul_lo p s
      have hm1 := rMul_hi p s
      have hq0 := rMul_lo s s
      have hq1 := rMul_hi s s
      obtain ⟨hx0, hx1⟩ := prod_bd p s p0 p1 s0 s1
      obtain ⟨hy0, hy1⟩ := prod_bd s s s0 s1 s0 s1
      by_cases hp : k % 2 = 1
      · have hj : PowInv (rPow a n) (rMul p s) (rMul s s) (k / 2) := powInv_odd hi (by omega)
        have hb : ((k : Int) % 2 == 1) = true := by simp; omega
        clear hp
        go_wp2
        go_round
        case rel => exact ⟨k / 2, _, _, by omega, hm0, hm1, hq0, hq1, rfl, rfl, rfl, hj⟩
        case measure => simp [intOf]; omega
      · have hj : PowInv (rPow a n) p (rMul s s) (k / 2) := powInv_even hi (by omega)
        have hb : ((k : Int) % 2 == 1) = false := by simp; omega
        clear hp
        go_wp2
        go_round
        case rel => exact ⟨k / 2, _, _, by omega, p0, p1, hq0, hq1, rfl, rfl, rfl, hj⟩
        case measure => simp [intOf]; omega
    · obtain rfl : k = 0 := by omega
      have hr := Lib.hid (powInv_end hi p0 p1)
      go_wp2
      go_ret
      exact ⟨ret_int hr.out, rfl⟩

set_option maxHeartbeats 400000 in
theorem refPow_neg (a n : Int) (w : World) (hn : n < 0) :
    Calls Tryd.prog 19 #[.int .i64 a, .int .i64 n] w fun e w' => e = .returned (.int .i64 (rPow a n)) ∧ w = w' := by
  have hr := Lib.hid (rPow_neg a n hn)
  go_enter Tryd.func19, Tryd.ntmps19
  go_wp2
  go_ret
  exact ⟨ret_int hr.out.symm, rfl⟩

theorem refPow_any (a n : Int) (w : World) (hn : n ≤ 9223372036854775807) :
    Calls Tryd.prog 19 #[.int .i64 a, .int .i64 n] w fun e w' => e = .returned (.int .i64 (rPow a n)) ∧ w = w' := by
  by_cases h : n < 0
  · exact refPow_neg a n w h
  · obtain ⟨m, rfl⟩ : ∃ m : Nat, n = m := ⟨n.toNat, by omega⟩
    exact refPow_pos a m w (by omega)

theorem wrap_low (x n : Int) (h0 : 1 ≤ n) (h1 : n ≤ 4611686018427387904) : wrap64 ((IntKind.u64.wrap x).tmod n) = low x n := by
  have e : IntKind.u64.wrap x = x % 18446744073709551616 := by simp [IntKind.wrap, IntKind.bits, IntKind.signed]
  rw [e, Int.tmod_eq_emod_of_nonneg (by omega)]
  have l0 : 0 ≤ low x n := Int.emod_nonneg _ (by omega)
  have l1 : low x n < n := Int.emod_lt_of_pos _ (by omega)
  exact IntWalk.wrap64_in _ (by show -9223372036854775808 ≤ low x n ∧ low x n ≤ 9223372036854775807; omega)

set_option maxHeartbeats 400000 in
theorem low_any (x n : Int) (w : World) (h0 : 1 ≤ n) (h1 : n ≤ 4611686018427387904) :
    Calls Tryd.prog 26 #[.int .i64 x, .int .i64 n] w fun e w' => e = .returned (.int .i64 (low x n)) ∧ w = w' := by
  go_enter Tryd.func26, Tryd.ntmps26
  go_wp2
  go_ret
  exact ⟨ret_int (wrap_low x n h0 h1), rfl⟩

end Go.Proofs.YtlaejnbkgikfcaaDoor
