/- Contracts of round's functions, and of the document's own, as wave's statements reach them. -/
import Derived.Test.YtneopnlklhcopaaProg
import Derived.Test.YtneopnlklhcopaaWords
import Derived.Test.YtneopnlklhcopaaMod
import Derived.Test.YtneopnlklhcopaaBits
namespace Go.Proofs.Ytneopnlklhcopaa
open Go.RowKit Slices Go.Proofs.Ytneopnlklhcopaa.Ring


theorem ret_int {k : IntKind} {a b : Int} (h : a = b) : Ending.returned (.int k a) = .returned (.int k b) := by rw [h]

set_option maxHeartbeats 400000 in
theorem modulo_any (a x : Int) (w : World) (a0 : 2 ≤ a) (a1 : a ≤ 1099511627776) :
    Calls Try.prog 51 #[.int .i64 a, .int .i64 x] w fun e w' => e = .returned (.int .i64 (x % a)) ∧ w = w' := by
  obtain ⟨h0, h1⟩ := tmod_bd x a (by omega)
  go_enter Try.func51, Try.ntmps51
  by_cases h : x.tmod a < 0
  · go_wp2
    go_ret
    exact ⟨ret_int (tmod_ng x a (by omega) h), rfl⟩
  · have h' : 0 ≤ x.tmod a := by omega
    go_wp2
    go_ret
    exact ⟨ret_int (tmod_nn x a (by omega) h'), rfl⟩

set_option maxHeartbeats 400000 in
theorem of_any (x : Int) (w : World) :
    Calls Try.prog 37 #[.int .i64 x] w fun e w' => e = .returned (.int .i64 (rOf x)) ∧ w = w' := by
  go_enter Try.func37, Try.ntmps37
  go_wp2_with (go_at_call 51; refine (modulo_any _ _ _ (by omega) (by omega)).mono ?_; rintro e w' ⟨rfl, rfl⟩)
  go_ret
  exact ⟨rfl, rfl⟩

set_option maxHeartbeats 400000 in
theorem refOf_any (x : Int) (w : World) :
    Calls Try.prog 53 #[.int .i64 x] w fun e w' => e = .returned (.int .i64 (rOf x)) ∧ w = w' := by
  have h0 := tmod_lo x
  have h1 := tmod_hi x
  go_enter Try.func53, Try.ntmps53
  go_wp2
  go_ret
  exact ⟨ret_int (tmod_ref x), rfl⟩

set_option maxHeartbeats 400000 in
theorem mul_any (a b : Int) (w : World) :
    Calls Try.prog 36 #[.int .i64 a, .int .i64 b] w fun e w' => e = .returned (.int .i64 (rMul a b)) ∧ w = w' := by
  obtain ⟨p0, p1⟩ := prod_bd (rOf a) (rOf b) (rOf_lo a) (rOf_hi a) (rOf_lo b) (rOf_hi b)
  go_enter Try.func36, Try.ntmps36
  go_wp2_with (go_at_call 37; refine (of_any _ _).mono ?_; rintro e w' ⟨rfl, rfl⟩)
  go_ret
  exact ⟨ret_int (rMul_of a b), rfl⟩

set_option maxHeartbeats 400000 in
theorem refNorm_any (x : Int) (w : World) :
    Calls Try.prog 49 #[.int .i64 x] w fun e w' => e = .returned (.int .i64 (norm x)) ∧ w = w' := by
  have h0 := rOf_lo x
  have h1 := rOf_hi x
  go_enter Try.func49, Try.ntmps49
  go_wp2_with (go_at_call 53; refine (refOf_any _ _).mono ?_; rintro e w' ⟨rfl, rfl⟩)
  all_goals
    go_ret
    exact ⟨ret_int (by unfold norm; split <;> omega), rfl⟩


theorem half_int (k : Nat) : Value.int IntKind.i64 ((k : Int) / 2) = .int .i64 ((k / 2 : Nat) : Int) := rfl

set_option maxHeartbeats 400000 in
theorem pow_pos (a : Int) (n : Nat) (w : World) (hn : n ≤ 9223372036854775807) :
    Calls Try.prog 39 #[.int .i64 a, .int .i64 n] w fun e w' => e = .returned (.int .i64 (rPow a n)) ∧ w = w' := by
  have hs := powInv_start a n
  have a0 := rOf_lo a
  have a1 := rOf_hi a
  go_enter Try.func39, Try.ntmps39
  go_wp2_with (go_at_call 37; refine (of_any _ _).mono ?_; rintro e w' ⟨rfl, rfl⟩)
  go_loop [1, 5, 6] (fun n' p' s' => ∃ (k : Nat) (p s : Int), k ≤ 9223372036854775807 ∧ 0 ≤ p ∧ p ≤ 8380416 ∧ 0 ≤ s ∧ s ≤ 8380416 ∧ n' = .int .i64 k ∧ p' = .int .i64 p ∧ s' = .int .i64 s ∧ PowInv (rPow a n) p s k) (fun n' _ _ => (intOf n').toNat)
  case atStart => exact ⟨n, 1, rOf a, hn, by omega, by omega, a0, a1, rfl, rfl, rfl, hs⟩
  case round =>
    obtain ⟨k, p, s, hk, p0, p1, s0, s1, rfl, rfl, rfl, hi⟩ := hrel
    by_cases hlt : 0 < k
    · have hm0 := rMul_lo p s
      have hm1 := rMul_hi p s
      have hq0 := rMul_lo s s
      have hq1 := rMul_hi s s
      by_cases hp : k % 2 = 1
      · have hj : PowInv (rPow a n) (rMul p s) (rMul s s) (k / 2) := powInv_odd hi (by omega)
        have hb : (bits BinOp.and IntKind.i64 (k : Int) 1 == 1) = true := by rw [and1]; simp; omega
        clear hp
        go_wp2_with (go_at_call 36; refine (mul_any _ _ _).mono ?_; rintro e w' ⟨rfl, rfl⟩)
        go_round
        case rel => exact ⟨k / 2, _, _, by omega, hm0, hm1, hq0, hq1, rfl, rfl, rfl, hj⟩
        case measure => simp [intOf]; omega
      · have hj : PowInv (rPow a n) p (rMul s s) (k / 2) := powInv_even hi (by omega)
        have hb : (bits BinOp.and IntKind.i64 (k : Int) 1 == 1) = false := by rw [and1]; simp; omega
        clear hp
        go_wp2_with (go_at_call 36; refine (mul_any _ _ _).mono ?_; rintro e w' ⟨rfl, rfl⟩)
        go_round
        case rel => exact ⟨k / 2, _, _, by omega, p0, p1, hq0, hq1, rfl, rfl, rfl, hj⟩
        case measure => simp [intOf]; omega
    · obtain rfl : k = 0 := by omega
      have hr := Lib.hid (powInv_end hi p0 p1)
      go_wp2
      go_ret
      exact ⟨ret_int hr.out, rfl⟩

set_option maxHeartbeats 400000 in
theorem pow_neg (a n : Int) (w : World) (hn : n < 0) :
    Calls Try.prog 39 #[.int .i64 a, .int .i64 n] w fun e w' => e = .returned (.int .i64 (rPow a n)) ∧ w = w' := by
  have hr := Lib.hid (rPow_neg a n hn)
  go_enter Try.func39, Try.ntmps39
  go_wp2
  go_ret
  exact ⟨ret_int hr.out.symm, rfl⟩

theorem pow_any (a n : Int) (w : World) (hn : n ≤ 9223372036854775807) :
    Calls Try.prog 39 #[.int .i64 a, .int .i64 n] w fun e w' => e = .returned (.int .i64 (rPow a n)) ∧ w = w' := by
  by_cases h : n < 0
  · exact pow_neg a n w h
  · obtain ⟨m, rfl⟩ : ∃ m : Nat, n = m := ⟨n.toNat, by omega⟩
    exact pow_pos a m w (by omega)

set_option maxHeartbeats 400000 in
theorem refPow_pos (a : Int) (n : Nat) (w : World) (hn : n ≤ 9223372036854775807) :
    Calls Try.prog 45 #[.int .i64 a, .int .i64 n] w fun e w' => e = .returned (.int .i64 (rPow a n)) ∧ w = w' := by
  have hs := powInv_start a n
  have a0 := rOf_lo a
  have a1 := rOf_hi a
  go_enter Try.func45, Try.ntmps45
  go_wp2_with (go_at_call 53; refine (refOf_any _ _).mono ?_; rintro e w' ⟨rfl, rfl⟩)
  go_loop [1, 5, 6] (fun n' p' s' => ∃ (k : Nat) (p s : Int), k ≤ 9223372036854775807 ∧ 0 ≤ p ∧ p ≤ 8380416 ∧ 0 ≤ s ∧ s ≤ 8380416 ∧ n' = .int .i64 k ∧ p' = .int .i64 p ∧ s' = .int .i64 s ∧ PowInv (rPow a n) p s k) (fun n' _ _ => (intOf n').toNat)
  case atStart => exact ⟨n, 1, rOf a, hn, by omega, by omega, a0, a1, rfl, rfl, rfl, hs⟩
  case round =>
    obtain ⟨k, p, s, hk, p0, p1, s0, s1, rfl, rfl, rfl, hi⟩ := hrel
    by_cases hlt : 0 < k
    · have hm0 := rMul_lo p s
      have hm1 := rMul_hi p s
      have hq0 := rMul_lo s s
      have hq1 := rMul_hi s s
      obtain ⟨hx0, hx1⟩ := prod_bd p s p0 p1 s0 s1
      obtain ⟨hy0, hy1⟩ := prod_bd s s s0 s1 s0 s1
      by_cases hp : k % 2 = 1
      · have hj : PowInv (rPow a n) (rMul p s) (rMul s s) (k / 2) := powInv_odd hi (by omega)
        have hb : ((k : Int) % 2 == 1) = true := by simp; omega
        clear hp
        go_wp2
        go_round
        case rel => exact ⟨k / 2, _, _, by omega, hm0, hm1, hq0, hq1, rfl, rfl, rfl, hj⟩
        case measure => simp [intOf]; omega
      · have hj : PowInv (rPow a n) p (rMul s s) (k / 2) := powInv_even hi (by omega)
        have hb : ((k : Int) % 2 == 1) = false := by simp; omega
        clear hp
        go_wp2
        go_round
        case rel => exact ⟨k / 2, _, _, by omega, p0, p1, hq0, hq1, rfl, rfl, rfl, hj⟩
        case measure => simp [intOf]; omega
    · obtain rfl : k = 0 := by omega
      have hr := Lib.hid (powInv_end hi p0 p1)
      go_wp2
      go_ret
      exact ⟨ret_int hr.out, rfl⟩

set_option maxHeartbeats 400000 in
theorem refPow_neg (a n : Int) (w : World) (hn : n < 0) :
    Calls Try.prog 45 #[.int .i64 a, .int .i64 n] w fun e w' => e = .returned (.int .i64 (rPow a n)) ∧ w = w' := by
  have hr := Lib.hid (rPow_neg a n hn)
  go_enter Try.func45, Try.ntmps45
  go_wp2
  go_ret
  exact ⟨ret_int hr.out.symm, rfl⟩

theorem refPow_any (a n : Int) (w : World) (hn : n ≤ 9223372036854775807) :
    Calls Try.prog 45 #[.int .i64 a, .int .i64 n] w fun e w' => e = .returned (.int .i64 (rPow a n)) ∧ w = w' := by
  by_cases h : n < 0
  · exact refPow_neg a n w h
  · obtain ⟨m, rfl⟩ : ∃ m : Nat, n = m := ⟨n.toNat, by omega⟩
    exact refPow_pos a m w (by omega)

theorem wrap_low (x n : Int) (h0 : 1 ≤ n) (h1 : n ≤ 4611686018427387904) : wrap64 ((IntKind.u64.wrap x).tmod n) = low x n := by
  have e : IntKind.u64.wrap x = x % 18446744073709551616 := by simp [IntKind.wrap, IntKind.bits, IntKind.signed]
  rw [e, Int.tmod_eq_emod_of_nonneg (by omega)]
  have l0 : 0 ≤ low x n := Int.emod_nonneg _ (by omega)
  have l1 : low x n < n := Int.emod_lt_of_pos _ (by omega)
  exact IntWalk.wrap64_in _ (by show -9223372036854775808 ≤ low x n ∧ low x n ≤ 9223372036854775807; omega)

set_option maxHeartbeats 400000 in
theorem low_any (x n : Int) (w : World) (h0 : 1 ≤ n) (h1 : n ≤ 4611686018427387904) :
    Calls Try.prog 33 #[.int .i64 x, .int .i64 n] w fun e w' => e = .returned (.int .i64 (low x n)) ∧ w = w' := by
  go_enter Try.func33, Try.ntmps33
  go_wp2
  go_ret
  exact ⟨ret_int (wrap_low x n h0 h1), rfl⟩

def tpart (x : Int) : Nat → Int
  | 0 => 0
  | k + 1 => 2 * tpart x k + x / 2 ^ k % 2
theorem tpart_8 (x : Int) : tpart x 8 = turn x := by
  show 2 * (2 * (2 * (2 * (2 * (2 * (2 * (2 * 0 + x / 1 % 2) + x / 2 % 2) + x / 4 % 2) + x / 8 % 2) + x / 16 % 2) + x / 32 % 2) + x / 64 % 2) + x / 128 % 2 = _
  unfold turn
  rw [Int.ediv_one]
  generalize x % 2 = a0
  generalize x / 2 % 2 = a1
  generalize x / 4 % 2 = a2
  generalize x / 8 % 2 = a3
  generalize x / 16 % 2 = a4
  generalize x / 32 % 2 = a5
  generalize x / 64 % 2 = a6
  generalize x / 128 % 2 = a7
  omega
theorem tpart_bd (x : Int) (k : Nat) (h : k ≤ 8) : 0 ≤ tpart x k ∧ tpart x k ≤ 255 := by
  have : k = 0 ∨ k = 1 ∨ k = 2 ∨ k = 3 ∨ k = 4 ∨ k = 5 ∨ k = 6 ∨ k = 7 ∨ k = 8 := by omega
  rcases this with rfl | rfl | rfl | rfl | rfl | rfl | rfl | rfl | rfl <;> (simp only [tpart]; omega)

set_option maxHeartbeats 1000000 in
theorem refTurn8 (x : Int) (w : World) :
    Calls Try.prog 46 #[.int .i64 8, .int .i64 x] w fun e w' => e = .returned (.int .i64 (turn x)) ∧ w = w' := by
  go_enter Try.func46, Try.ntmps46
  go_wp2
  go_loop [5, 6] (fun o i => ∃ k : Nat, k ≤ 8 ∧ i = .int .i64 k ∧ o = .int .i64 (tpart x k)) (fun _ i => 8 - (intOf i).toNat)
  case atStart => exact ⟨0, Nat.zero_le _, rfl, rfl⟩
  case round =>
    obtain ⟨k, hk, rfl, rfl⟩ := hrel
    match k, hk with
    | 0, hk =>
      obtain ⟨b0, b1⟩ := tpart_bd x 0 (by omega)
      have hs : 2 * tpart x 0 + x % 2 = tpart x 1 := by show _ = 2 * tpart x 0 + x / 2 ^ 0 % 2; omega
      have HS := Lib.hid hs
      have he : bits BinOp.and IntKind.i64 x 1 = x % 2 := and1 _
      clear hs
      go_wp2
      go_round
      case rel => exact ⟨1, by omega, rfl, congrArg _ HS.out⟩
      case measure => simp [intOf]
    | 1, hk =>
      obtain ⟨b0, b1⟩ := tpart_bd x 1 (by omega)
      have hs : 2 * tpart x 1 + x / 2 % 2 = tpart x 2 := by show _ = 2 * tpart x 1 + x / 2 ^ 1 % 2; omega
      have HS := Lib.hid hs
      have he : bits BinOp.and IntKind.i64 (x / 2) 1 = x / 2 % 2 := and1 _
      clear hs
      go_wp2
      go_round
      case rel => exact ⟨2, by omega, rfl, congrArg _ HS.out⟩
      case measure => simp [intOf]
    | 2, hk =>
      obtain ⟨b0, b1⟩ := tpart_bd x 2 (by omega)
      have hs : 2 * tpart x 2 + x / 4 % 2 = tpart x 3 := by show _ = 2 * tpart x 2 + x / 2 ^ 2 % 2; omega
      have HS := Lib.hid hs
      have he : bits BinOp.and IntKind.i64 (x / 4) 1 = x / 4 % 2 := and1 _
      clear hs
      go_wp2
      go_round
      case rel => exact ⟨3, by omega, rfl, congrArg _ HS.out⟩
      case measure => simp [intOf]
    | 3, hk =>
      obtain ⟨b0, b1⟩ := tpart_bd x 3 (by omega)
      have hs : 2 * tpart x 3 + x / 8 % 2 = tpart x 4 := by show _ = 2 * tpart x 3 + x / 2 ^ 3 % 2; omega
      have HS := Lib.hid hs
      have he : bits BinOp.and IntKind.i64 (x / 8) 1 = x / 8 % 2 := and1 _
      clear hs
      go_wp2
      go_round
      case rel => exact ⟨4, by omega, rfl, congrArg _ HS.out⟩
      case measure => simp [intOf]
    | 4, hk =>
      obtain ⟨b0, b1⟩ := tpart_bd x 4 (by omega)
      have hs : 2 * tpart x 4 + x / 16 % 2 = tpart x 5 := by show _ = 2 * tpart x 4 + x / 2 ^ 4 % 2; omega
      have HS := Lib.hid hs
      have he : bits BinOp.and IntKind.i64 (x / 16) 1 = x / 16 % 2 := and1 _
      clear hs
      go_wp2
      go_round
      case rel => exact ⟨5, by omega, rfl, congrArg _ HS.out⟩
      case measure => simp [intOf]
    | 5, hk =>
      obtain ⟨b0, b1⟩ := tpart_bd x 5 (by omega)
      have hs : 2 * tpart x 5 + x / 32 % 2 = tpart x 6 := by show _ = 2 * tpart x 5 + x / 2 ^ 5 % 2; omega
      have HS := Lib.hid hs
      have he : bits BinOp.and IntKind.i64 (x / 32) 1 = x / 32 % 2 := and1 _
      clear hs
      go_wp2
      go_round
      case rel => exact ⟨6, by omega, rfl, congrArg _ HS.out⟩
      case measure => simp [intOf]
    | 6, hk =>
      obtain ⟨b0, b1⟩ := tpart_bd x 6 (by omega)
      have hs : 2 * tpart x 6 + x / 64 % 2 = tpart x 7 := by show _ = 2 * tpart x 6 + x / 2 ^ 6 % 2; omega
      have HS := Lib.hid hs
      have he : bits BinOp.and IntKind.i64 (x / 64) 1 = x / 64 % 2 := and1 _
      clear hs
      go_wp2
      go_round
      case rel => exact ⟨7, by omega, rfl, congrArg _ HS.out⟩
      case measure => simp [intOf]
    | 7, hk =>
      obtain ⟨b0, b1⟩ := tpart_bd x 7 (by omega)
      have hs : 2 * tpart x 7 + x / 128 % 2 = tpart x 8 := by show _ = 2 * tpart x 7 + x / 2 ^ 7 % 2; omega
      have HS := Lib.hid hs
      have he : bits BinOp.and IntKind.i64 (x / 128) 1 = x / 128 % 2 := and1 _
      clear hs
      go_wp2
      go_round
      case rel => exact ⟨8, by omega, rfl, congrArg _ HS.out⟩
      case measure => simp [intOf]
    | 8, hk =>
      go_wp2
      go_ret
      exact ⟨ret_int (tpart_8 x), rfl⟩

set_option maxHeartbeats 400000 in
theorem refRoot_any (i : Int) (w : World) :
    Calls Try.prog 27 #[.int .i64 i] w fun e w' => e = .returned (.int .i64 (rRoot i)) ∧ w = w' := by
  have t0 : turn i ≤ 255 := (turn_bd i).2
  go_enter Try.func27, Try.ntmps27
  go_wp2_with (first | (go_at_call 46; refine (refTurn8 _ _).mono ?_; rintro e w' ⟨rfl, rfl⟩) | (go_at_call 45; refine (refPow_any _ _ _ (by omega)).mono ?_; rintro e w' ⟨rfl, rfl⟩))
  go_ret
  exact ⟨rfl, rfl⟩
end Go.Proofs.Ytneopnlklhcopaa
