/- Contracts: bits turned round, by the program and by the document; a number below another. -/
import Derived.Test.YtkonbkmjodfcoaaA
namespace Go.Proofs.Ytkonbkmjodfcoaa
open Go.RowKit Slices Go.Proofs.Ytkonbkmjodfcoaa.Bit

theorem turn_or {t y : Int} (h0 : 0 ≤ t) (h1 : t < 2305843009213693952) : bits .or .i64 (t * 2) (y % 2) = 2 * t + y % 2 := by
  rw [bits_join .i64 63 (by decide) (fun n a b => wraps_i64 n a b) 1 _ _ (by omega) (by omega) (by omega) (by omega) (by omega) (by omega)]
  omega
theorem div_next (x : Int) (k : Nat) : x / 2 ^ k / 2 = x / 2 ^ (k + 1) := by
  rw [Int.pow_succ, Int.ediv_ediv_of_nonneg (by rw [pow_cast]; exact Int.natCast_nonneg _)]
theorem turnP_small (x : Int) {k : Nat} (h : k < 62) : 0 ≤ turnP x k ∧ turnP x k < 2305843009213693952 := by
  obtain ⟨a, b⟩ := turnP_bd x k
  have : 2 ^ k ≤ 2 ^ 61 := Nat.pow_le_pow_right (by decide) (by omega : k ≤ 61)
  rw [pow_cast] at b
  omega

set_option maxHeartbeats 400000 in
theorem turn_any (d x : Int) (w : World) :
    Calls Try.prog 19 #[.int .i64 d, .int .i64 x] w fun e w' => e = .returned (.int .i64 (turnI d x)) ∧ w = w' := by
  by_cases h : 0 ≤ d ∧ d ≤ 62
  · obtain ⟨h0, h1⟩ := h
    obtain ⟨D, rfl⟩ := Int.eq_ofNat_of_zero_le h0
    have hq := Lib.hid (turnI_yes x (d := D) (by omega))
    have hz : Hid (x = x / 2 ^ 0) := by show x = x / 2 ^ 0; simp
    go_enter Try.func19, Try.ntmps19
    go_wp2_with (first
      | (go_at_call 30; refine (isLow_yes _ _ h0 h1).mono ?_; rintro e w' ⟨rfl, rfl⟩))
    go_loop [1, 5, 10] (fun y t i => ∃ k : Nat, k ≤ D ∧ i = .int .i64 k ∧ t = .int .i64 (turnP x k) ∧ y = .int .i64 (x / 2 ^ k)) (fun _ _ i => D - (intOf i).toNat)
    case atStart => exact ⟨0, Nat.zero_le _, rfl, rfl, congrArg _ hz.out⟩
    case round =>
      obtain ⟨k, hk, rfl, rfl, rfl⟩ := hrel
      by_cases hlt : k < D
      · obtain ⟨t0, t1⟩ := turnP_small x (k := k) (by omega)
        have hn := Lib.hid (div_next x k)
        have he : Hid (turnP x (k + 1) = 2 * turnP x k + x / 2 ^ k % 2) := rfl
        generalize x / 2 ^ k = y at hn he
        generalize turnP x k = t at t0 t1 he
        have hb := and_one y
        have ho := turn_or (y := y) t0 t1
        go_wp2
        go_round
        case rel => exact ⟨k + 1, by omega, by go_num, congrArg _ he.out.symm, congrArg _ hn.out⟩
        case measure => simp [intOf]; omega
      · have e : k = D := by omega
        subst e
        go_wp2
        go_ret
        exact ⟨ret_int hq.out.symm, rfl⟩
  · have hq := Lib.hid (turnI_no x h)
    go_enter Try.func19, Try.ntmps19
    go_wp2_with (first
      | (go_at_call 30; refine (isLow_no _ _ h).mono ?_; rintro e w' ⟨rfl, rfl⟩))
    go_ret
    exact ⟨ret_int hq.out.symm, rfl⟩

set_option maxHeartbeats 400000 in
theorem refTurn_any (d x : Int) (w : World) :
    Calls Try.prog 20 #[.int .i64 d, .int .i64 x] w fun e w' => e = .returned (.int .i64 (turnI d x)) ∧ w = w' := by
  by_cases h0 : d < 0
  · have hq := Lib.hid (turnI_no x (d := d) (by omega))
    go_enter Try.func20, Try.ntmps20
    go_wp2
    go_ret
    exact ⟨ret_int hq.out.symm, rfl⟩
  · by_cases h1 : 62 < d
    · have hq := Lib.hid (turnI_no x (d := d) (by omega))
      go_enter Try.func20, Try.ntmps20
      go_wp2
      go_ret
      exact ⟨ret_int hq.out.symm, rfl⟩
    · obtain ⟨D, rfl⟩ := Int.eq_ofNat_of_zero_le (Int.not_lt.mp h0)
      have hq := Lib.hid (turnI_yes x (d := D) (by omega))
      go_enter Try.func20, Try.ntmps20
      go_wp2
      go_loop [5, 6] (fun t i => ∃ k : Nat, k ≤ D ∧ i = .int .i64 k ∧ t = .int .i64 (turnP x k)) (fun _ i => D - (intOf i).toNat)
      case atStart => exact ⟨0, Nat.zero_le _, rfl, rfl⟩
      case round =>
        obtain ⟨k, hk, rfl, rfl⟩ := hrel
        by_cases hlt : k < D
        · obtain ⟨t0, t1⟩ := turnP_small x (k := k) (by omega)
          have he : Hid (turnP x (k + 1) = 2 * turnP x k + x / 2 ^ k % 2) := rfl
          obtain ⟨y, hy⟩ : ∃ y, x / 2 ^ k = y := ⟨_, rfl⟩
          rw [hy] at he
          generalize turnP x k = t at t0 t1 he
          have hb := and_one y
          go_wp2
          go_round
          case rel => exact ⟨k + 1, by omega, by go_num, congrArg _ he.out.symm⟩
          case measure => simp [intOf]; omega
        · have e : k = D := by omega
          subst e
          go_wp2
          go_ret
          exact ⟨ret_int hq.out.symm, rfl⟩

/-- the statements' own remainder -/
def low (x n : Int) : Int := x % 18446744073709551616 % n
theorem low_lo (x : Int) {n : Int} (h : 1 ≤ n) : 0 ≤ low x n := Int.emod_nonneg _ (by omega)
theorem low_hi (x : Int) {n : Int} (h : 1 ≤ n) : low x n < n := Int.emod_lt_of_pos _ (by omega)
theorem wrap_low (x n : Int) (h0 : 1 ≤ n) (h1 : n ≤ 4611686018427387904) : wrap64 ((IntKind.u64.wrap x).tmod n) = low x n := by
  have e : IntKind.u64.wrap x = x % 18446744073709551616 := by simp [IntKind.wrap, IntKind.bits, IntKind.signed]
  rw [e, Int.tmod_eq_emod_of_nonneg (by omega)]
  have l0 := low_lo x h0
  have l1 := low_hi x h0
  exact IntWalk.wrap64_in _ (by show -9223372036854775808 ≤ low x n ∧ low x n ≤ 9223372036854775807; omega)

set_option maxHeartbeats 400000 in
theorem lawLow_any (x n : Int) (w : World) (h0 : 1 ≤ n) (h1 : n ≤ 4611686018427387904) :
    Calls Try.prog 25 #[.int .i64 x, .int .i64 n] w fun e w' => e = .returned (.int .i64 (low x n)) ∧ w = w' := by
  go_enter Try.func25, Try.ntmps25
  go_wp2
  go_ret
  exact ⟨ret_int (wrap_low x n h0 h1), rfl⟩
end Go.Proofs.Ytkonbkmjodfcoaa
