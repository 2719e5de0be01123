/- Contracts of ring's functions, and of the document's own, as poly's statements reach them. -/
import Derived.Test.YtmjcgkddjgplkaaDoorProg
import Derived.Test.YtmjcgkddjgplkaaDoorWords
import Derived.Test.YtmjcgkddjgplkaaDoorMore
import Derived.Test.YtmjcgkddjgplkaaDoorBits
namespace Go.Proofs.YtmjcgkddjgplkaaDoor
open Go.RowKit Go.Proofs.YtmjcgkddjgplkaaDoor.Ring
theorem ret_int {k : IntKind} {a b : Int} (h : a = b) : Ending.returned (.int k a) = .returned (.int k b) := by rw [h]


set_option maxHeartbeats 400000 in
theorem of_any (x : Int) (w : World) :
    Calls Tryd.prog 38 #[.int .i64 x] w fun e w' => e = .returned (.int .i64 (rOf x)) ∧ w = w' := by
  have h0 := tmod_lo x
  have h1 := tmod_hi x
  go_enter Tryd.func38, Tryd.ntmps38
  by_cases h : x.tmod 3329 < 0
  · go_wp2
    go_ret
    exact ⟨ret_int (tmod_neg x h), rfl⟩
  · have h' : 0 ≤ x.tmod 3329 := by omega
    go_wp2
    go_ret
    exact ⟨ret_int (tmod_pos x h'), rfl⟩


set_option maxHeartbeats 400000 in
theorem refOf_any (x : Int) (w : World) :
    Calls Tryd.prog 49 #[.int .i64 x] w fun e w' => e = .returned (.int .i64 (rOf x)) ∧ w = w' := by
  have h0 := tmod_lo x
  have h1 := tmod_hi x
  go_enter Tryd.func49, Tryd.ntmps49
  go_wp2
  go_ret
  exact ⟨ret_int (tmod_ref x), rfl⟩


set_option maxHeartbeats 400000 in
theorem add_any (a b : Int) (w : World) :
    Calls Tryd.prog 33 #[.int .i64 a, .int .i64 b] w fun e w' => e = .returned (.int .i64 (rAdd a b)) ∧ w = w' := by
  have a0 := rOf_lo a
  have a1 := rOf_hi a
  have b0 := rOf_lo b
  have b1 := rOf_hi b
  go_enter Tryd.func33, Tryd.ntmps33
  go_wp2_with (go_at_call 38; refine (of_any _ _).mono ?_; rintro e w' ⟨rfl, rfl⟩)
  go_ret
  exact ⟨ret_int (rAdd_of a b), rfl⟩


set_option maxHeartbeats 400000 in
theorem refAdd_any (a b : Int) (w : World) :
    Calls Tryd.prog 42 #[.int .i64 a, .int .i64 b] w fun e w' => e = .returned (.int .i64 (rAdd a b)) ∧ w = w' := by
  have a0 := rOf_lo a
  have a1 := rOf_hi a
  have b0 := rOf_lo b
  have b1 := rOf_hi b
  go_enter Tryd.func42, Tryd.ntmps42
  go_wp2_with (go_at_call 49; refine (refOf_any _ _).mono ?_; rintro e w' ⟨rfl, rfl⟩)
  go_ret
  exact ⟨ret_int (rAdd_of a b), rfl⟩


set_option maxHeartbeats 400000 in
theorem sub_any (a b : Int) (w : World) :
    Calls Tryd.prog 34 #[.int .i64 a, .int .i64 b] w fun e w' => e = .returned (.int .i64 (rSub a b)) ∧ w = w' := by
  have a0 := rOf_lo a
  have a1 := rOf_hi a
  have b0 := rOf_lo b
  have b1 := rOf_hi b
  go_enter Tryd.func34, Tryd.ntmps34
  go_wp2_with (go_at_call 38; refine (of_any _ _).mono ?_; rintro e w' ⟨rfl, rfl⟩)
  go_ret
  exact ⟨ret_int (rSub_of a b), rfl⟩


set_option maxHeartbeats 400000 in
theorem refSub_any (a b : Int) (w : World) :
    Calls Tryd.prog 43 #[.int .i64 a, .int .i64 b] w fun e w' => e = .returned (.int .i64 (rSub a b)) ∧ w = w' := by
  have a0 := rOf_lo a
  have a1 := rOf_hi a
  have b0 := rOf_lo b
  have b1 := rOf_hi b
  go_enter Tryd.func43, Tryd.ntmps43
  go_wp2_with (go_at_call 49; refine (refOf_any _ _).mono ?_; rintro e w' ⟨rfl, rfl⟩)
  go_ret
  exact ⟨ret_int (rSub_of a b), rfl⟩


set_option maxHeartbeats 400000 in
theorem mul_any (a b : Int) (w : World) :
    Calls Tryd.prog 32 #[.int .i64 a, .int .i64 b] w fun e w' => e = .returned (.int .i64 (rMul a b)) ∧ w = w' := by
  obtain ⟨p0, p1⟩ := prod_bd (rOf a) (rOf b) (rOf_lo a) (rOf_hi a) (rOf_lo b) (rOf_hi b)
  go_enter Tryd.func32, Tryd.ntmps32
  go_wp2_with (go_at_call 38; refine (of_any _ _).mono ?_; rintro e w' ⟨rfl, rfl⟩)
  go_ret
  exact ⟨ret_int (rMul_of a b), rfl⟩


theorem half_int (k : Nat) : Value.int IntKind.i64 ((k : Int) / 2) = .int .i64 ((k / 2 : Nat) : Int) := rfl


set_option maxHeartbeats 400000 in
theorem pow_pos (a : Int) (n : Nat) (w : World) (hn : n ≤ 9223372036854775807) :
    Calls Tryd.prog 36 #[.int .i64 a, .int .i64 n] w fun e w' => e = .returned (.int .i64 (rPow a n)) ∧ w = w' := by
  have hs := powInv_start a n
  have a0 := rOf_lo a
  have a1 := rOf_hi a
  go_enter Tryd.func36, Tryd.ntmps36
  go_wp2_with (go_at_call 38; refine (of_any _ _).mono ?_; rintro e w' ⟨rfl, rfl⟩)
  go_loop [1, 5, 6] (fun n' p' s' => ∃ (k : Nat) (p s : Int), k ≤ 9223372036854775807 ∧ 0 ≤ p ∧ p ≤ 3328 ∧ 0 ≤ s ∧ s ≤ 3328 ∧ n' = .int .i64 k ∧ p' = .int .i64 p ∧ s' = .int .i64 s ∧ PowInv (rPow a n) p s k) (fun n' _ _ => (intOf n').toNat)
  case atStart => exact ⟨n, 1, rOf a, hn, by omega, by omega, a0, a1, rfl, rfl, rfl, hs⟩
  case round =>
    obtain ⟨k, p, s, hk, p0, p1, s0, s1, rfl, rfl, rfl, hi⟩ := hrel
    by_cases hlt : 0 < k
    · have hm0 := rMul_lo p s
      have hm1 := rMul_hi p s
      have hq0 := rMul_lo s s
      have hq1 := rMul_hi s s
      by_cases hp : k % 2 = 1
      · have hj : PowInv (rPow a n) (rMul p s) (rMul s s) (k / 2) := powInv_odd hi (by omega)
        have hb : (bits BinOp.and IntKind.i64 (k : Int) 1 == 1) = true := by rw [and1]; simp; omega
        clear hp
        go_wp2_with (go_at_call 32; refine (mul_any _ _ _).mono ?_; rintro e w' ⟨rfl, rfl⟩)
        go_round
        case rel => exact ⟨k / 2, _, _, by omega, hm0, hm1, hq0, hq1, rfl, rfl, rfl, hj⟩
        case measure => simp [intOf]; omega
      · have hj : PowInv (rPow a n) p (rMul s s) (k / 2) := powInv_even hi (by omega)
        have hb : (bits BinOp.and IntKind.i64 (k : Int) 1 == 1) = false := by rw [and1]; simp; omega
        clear hp
        go_wp2_with (go_at_call 32; refine (mul_any _ _ _).mono ?_; rintro e w' ⟨rfl, rfl⟩)
        go_round
        case rel => exact ⟨k / 2, _, _, by omega, p0, p1, hq0, hq1, rfl, rfl, rfl, hj⟩
        case measure => simp [intOf]; omega
    · obtain rfl : k = 0 := by omega
      have hr := Lib.hid (powInv_end hi p0 p1)
      go_wp2
      go_ret
      exact ⟨ret_int hr.out, rfl⟩


set_option maxHeartbeats 400000 in
theorem pow_neg (a n : Int) (w : World) (hn : n < 0) :
    Calls Tryd.prog 36 #[.int .i64 a, .int .i64 n] w fun e w' => e = .returned (.int .i64 (rPow a n)) ∧ w = w' := by
  have hr := Lib.hid (rPow_neg a n hn)
  go_enter Tryd.func36, Tryd.ntmps36
  go_wp2
  go_ret
  exact ⟨ret_int hr.out.symm, rfl⟩


theorem pow_any (a n : Int) (w : World) (hn : n ≤ 9223372036854775807) :
    Calls Tryd.prog 36 #[.int .i64 a, .int .i64 n] w fun e w' => e = .returned (.int .i64 (rPow a n)) ∧ w = w' := by
  by_cases h : n < 0
  · exact pow_neg a n w h
  · obtain ⟨m, rfl⟩ : ∃ m : Nat, n = m := ⟨n.toNat, by omega⟩
    exact pow_pos a m w (by omega)


set_option maxHeartbeats 400000 in
theorem refPow_pos (a : Int) (n : Nat) (w : World) (hn : n ≤ 9223372036854775807) :
    Calls Tryd.prog 45 #[.int .i64 a, .int .i64 n] w fun e w' => e = .returned (.int .i64 (rPow a n)) ∧ w = w' := by
  have hs := powInv_start a n
  have a0 := rOf_lo a
  have a1 := rOf_hi a
  go_enter Tryd.func45, Tryd.ntmps45
  go_wp2_with (go_at_call 49; refine (refOf_any _ _).mono ?_; rintro e w' ⟨rfl, rfl⟩)
  go_loop [1, 5, 6] (fun n' p' s' => ∃ (k : Nat) (p s : Int), k ≤ 9223372036854775807 ∧ 0 ≤ p ∧ p ≤ 3328 ∧ 0 ≤ s ∧ s ≤ 3328 ∧ n' = .int .i64 k ∧ p' = .int .i64 p ∧ s' = .int .i64 s ∧ PowInv (rPow a n) p s k) (fun n' _ _ => (intOf n').toNat)
  case atStart => exact ⟨n, 1, rOf a, hn, by omega, by omega, a0, a1, rfl, rfl, rfl, hs⟩
  case round =>
    obtain ⟨k, p, s, hk, p0, p1, s0, s1, rfl, rfl, rfl, hi⟩ := hrel
    by_cases hlt : 0 < k
    · have hm0 := rMul_lo p s
      have hm1 := rMul_hi p s
      have hq0 := rMul_lo s s
      have hq1 := rMul_hi s s
      obtain ⟨hx0, hx1⟩ := prod_bd p s p0 p1 s0 s1
      obtain ⟨hy0, hy1⟩ := prod_bd s s s0 s1 s0 s1
      by_cases hp : k % 2 = 1
      · have hj : PowInv (rPow a n) (rMul p s) (rMul s s) (k / 2) := powInv_odd hi (by omega)
        have hb : ((k : Int) % 2 == 1) = true := by simp; omega
        clear hp
        go_wp2
        go_round
        case rel => exact ⟨k / 2, _, _, by omega, hm0, hm1, hq0, hq1, rfl, rfl, rfl, hj⟩
        case measure => simp [intOf]; omega
      · have hj : PowInv (rPow a n) p (rMul s s) (k / 2) := powInv_even hi (by omega)
        have hb : ((k : Int) % 2 == 1) = false := by simp; omega
        clear hp
        go_wp2
        go_round
        case rel => exact ⟨k / 2, _, _, by omega, p0, p1, hq0, hq1, rfl, rfl, rfl, hj⟩
        case measure => simp [intOf]; omega
    · obtain rfl : k = 0 := by omega
      have hr := Lib.hid (powInv_end hi p0 p1)
      go_wp2
      go_ret
      exact ⟨ret_int hr.out, rfl⟩


set_option maxHeartbeats 400000 in
theorem refPow_neg (a n : Int) (w : World) (hn : n < 0) :
    Calls Tryd.prog 45 #[.int .i64 a, .int .i64 n] w fun e w' => e = .returned (.int .i64 (rPow a n)) ∧ w = w' := by
  have hr := Lib.hid (rPow_neg a n hn)
  go_enter Tryd.func45, Tryd.ntmps45
  go_wp2
  go_ret
  exact ⟨ret_int hr.out.symm, rfl⟩


theorem refPow_any (a n : Int) (w : World) (hn : n ≤ 9223372036854775807) :
    Calls Tryd.prog 45 #[.int .i64 a, .int .i64 n] w fun e w' => e = .returned (.int .i64 (rPow a n)) ∧ w = w' := by
  by_cases h : n < 0
  · exact refPow_neg a n w h
  · obtain ⟨m, rfl⟩ : ∃ m : Nat, n = m := ⟨n.toNat, by omega⟩
    exact refPow_pos a m w (by omega)


theorem wrap_low (x n : Int) (h0 : 1 ≤ n) (h1 : n ≤ 4611686018427387904) : wrap64 ((IntKind.u64.wrap x).tmod n) = low x n := by
  have e : IntKind.u64.wrap x = x % 18446744073709551616 := by simp [IntKind.wrap, IntKind.bits, IntKind.signed]
  rw [e, Int.tmod_eq_emod_of_nonneg (by omega)]
  have l0 : 0 ≤ low x n := Int.emod_nonneg _ (by omega)
  have l1 : low x n < n := Int.emod_lt_of_pos _ (by omega)
  exact IntWalk.wrap64_in _ (by show -9223372036854775808 ≤ low x n ∧ low x n ≤ 9223372036854775807; omega)


set_option maxHeartbeats 400000 in
theorem low_any (x n : Int) (w : World) (h0 : 1 ≤ n) (h1 : n ≤ 4611686018427387904) :
    Calls Tryd.prog 29 #[.int .i64 x, .int .i64 n] w fun e w' => e = .returned (.int .i64 (low x n)) ∧ w = w' := by
  go_enter Tryd.func29, Tryd.ntmps29
  go_wp2
  go_ret
  exact ⟨ret_int (wrap_low x n h0 h1), rfl⟩



set_option maxHeartbeats 1000000 in
theorem turned7 (x : Int) (w : World) :
    Calls Tryd.prog 46 #[.int .i64 7, .int .i64 x] w fun e w' => e = .returned (.int .i64 (turn x)) ∧ w = w' := by
  go_enter Tryd.func46, Tryd.ntmps46
  go_wp2
  go_loop [5, 6] (fun o i => ∃ k : Nat, k ≤ 7 ∧ i = .int .i64 k ∧ o = .int .i64 (tpart x k)) (fun _ i => 7 - (intOf i).toNat)
  case atStart => exact ⟨0, Nat.zero_le _, rfl, rfl⟩
  case round =>
    obtain ⟨k, hk, rfl, rfl⟩ := hrel
    match k, hk with
    | 0, hk =>
      obtain ⟨b0, b1⟩ := tpart_b0 x
      have hs := Lib.hid (tpart_s0 x)
      have he : bits BinOp.and IntKind.i64 x 1 = x % 2 := and1 _
      go_wp2
      go_round
      case rel => exact ⟨1, by omega, rfl, congrArg _ hs.out⟩
      case measure => simp [intOf]
    | 1, hk =>
      obtain ⟨b0, b1⟩ := tpart_b1 x
      have hs := Lib.hid (tpart_s1 x)
      have he : bits BinOp.and IntKind.i64 (x / 2) 1 = (x / 2) % 2 := and1 _
      go_wp2
      go_round
      case rel => exact ⟨2, by omega, rfl, congrArg _ hs.out⟩
      case measure => simp [intOf]
    | 2, hk =>
      obtain ⟨b0, b1⟩ := tpart_b2 x
      have hs := Lib.hid (tpart_s2 x)
      have he : bits BinOp.and IntKind.i64 (x / 4) 1 = (x / 4) % 2 := and1 _
      go_wp2
      go_round
      case rel => exact ⟨3, by omega, rfl, congrArg _ hs.out⟩
      case measure => simp [intOf]
    | 3, hk =>
      obtain ⟨b0, b1⟩ := tpart_b3 x
      have hs := Lib.hid (tpart_s3 x)
      have he : bits BinOp.and IntKind.i64 (x / 8) 1 = (x / 8) % 2 := and1 _
      go_wp2
      go_round
      case rel => exact ⟨4, by omega, rfl, congrArg _ hs.out⟩
      case measure => simp [intOf]
    | 4, hk =>
      obtain ⟨b0, b1⟩ := tpart_b4 x
      have hs := Lib.hid (tpart_s4 x)
      have he : bits BinOp.and IntKind.i64 (x / 16) 1 = (x / 16) % 2 := and1 _
      go_wp2
      go_round
      case rel => exact ⟨5, by omega, rfl, congrArg _ hs.out⟩
      case measure => simp [intOf]
    | 5, hk =>
      obtain ⟨b0, b1⟩ := tpart_b5 x
      have hs := Lib.hid (tpart_s5 x)
      have he : bits BinOp.and IntKind.i64 (x / 32) 1 = (x / 32) % 2 := and1 _
      go_wp2
      go_round
      case rel => exact ⟨6, by omega, rfl, congrArg _ hs.out⟩
      case measure => simp [intOf]
    | 6, hk =>
      obtain ⟨b0, b1⟩ := tpart_b6 x
      have hs := Lib.hid (tpart_s6 x)
      have he : bits BinOp.and IntKind.i64 (x / 64) 1 = (x / 64) % 2 := and1 _
      go_wp2
      go_round
      case rel => exact ⟨7, by omega, rfl, congrArg _ hs.out⟩
      case measure => simp [intOf]
    | 7, hk =>
      go_wp2
      go_ret
      exact ⟨rfl, rfl⟩


set_option maxHeartbeats 400000 in
theorem refRoot_any (i : Int) (w : World) :
    Calls Tryd.prog 44 #[.int .i64 i] w fun e w' => e = .returned (.int .i64 (rRoot i)) ∧ w = w' := by
  have t0 : turn i ≤ 127 := (tpart_b7 i).2
  go_enter Tryd.func44, Tryd.ntmps44
  go_wp2_with (first | (go_at_call 46; refine (turned7 _ _).mono ?_; rintro e w' ⟨rfl, rfl⟩) | (go_at_call 45; refine (refPow_any _ _ _ (by omega)).mono ?_; rintro e w' ⟨rfl, rfl⟩))
  go_ret
  exact ⟨rfl, rfl⟩



end Go.Proofs.YtmjcgkddjgplkaaDoor
