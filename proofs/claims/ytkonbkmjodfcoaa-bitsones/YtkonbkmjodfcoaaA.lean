/- Contracts: the small functions of bits, and the document's own. -/
import Derived.Test.YtkonbkmjodfcoaaProg
import Derived.Test.YtkonbkmjodfcoaaWords
import Derived.Test.YtkonbkmjodfcoaaNums
namespace Go.Proofs.Ytkonbkmjodfcoaa
open Go.RowKit Slices Go.Proofs.Ytkonbkmjodfcoaa.Bit
theorem ret_int {k : IntKind} {a b : Int} (h : a = b) : Ending.returned (.int k a) = .returned (.int k b) := by rw [h]

set_option maxHeartbeats 400000 in
theorem lowest_any (d : Nat) (w : World) (hd : d ≤ 62) :
    Calls Try.prog 28 #[.int .i64 d] w fun e w' => e = .returned (.int .i64 ((2 ^ d : Nat) - 1 : Int)) ∧ w = w' := by
  have hp := pow_cast d
  have h1 := pow_le62 hd
  have h0 := Nat.two_pow_pos d
  generalize 2 ^ d = P at hp h1 h0
  go_enter Try.func28, Try.ntmps28
  go_wp2
  go_ret
  exact ⟨rfl, rfl⟩

theorem lowest_as (d : Nat) (P : Int) (w : World) (hd : d ≤ 62) (hP : (2 : Int) ^ d = P) :
    Calls Try.prog 28 #[.int .i64 d] w fun e w' => e = .returned (.int .i64 (P - 1)) ∧ w = w' := by
  subst hP
  rw [pow_cast]
  exact lowest_any d w hd

set_option maxHeartbeats 400000 in
theorem isPacked_yes (d : Int) (w : World) (h1 : 1 ≤ d) (h2 : d ≤ 24) :
    Calls Try.prog 26 #[.int .i64 d] w fun e w' => e = .returned (.bool true) ∧ w = w' := by
  go_enter Try.func26, Try.ntmps26
  go_wp2
  go_ret
  exact ⟨rfl, rfl⟩
set_option maxHeartbeats 400000 in
theorem isPacked_no (d : Int) (w : World) (h : ¬ (1 ≤ d ∧ d ≤ 24)) :
    Calls Try.prog 26 #[.int .i64 d] w fun e w' => e = .returned (.bool false) ∧ w = w' := by
  by_cases h1 : d < 1
  · clear h
    go_enter Try.func26, Try.ntmps26
    go_wp2
    go_ret
    exact ⟨rfl, rfl⟩
  · have h2 : decide (d ≤ 24) = false := by rw [decide_eq_false_iff_not]; omega
    clear h
    go_enter Try.func26, Try.ntmps26
    go_wp2
    go_ret
    exact ⟨rfl, rfl⟩
set_option maxHeartbeats 400000 in
theorem isLow_yes (d : Int) (w : World) (h1 : 0 ≤ d) (h2 : d ≤ 62) :
    Calls Try.prog 30 #[.int .i64 d] w fun e w' => e = .returned (.bool true) ∧ w = w' := by
  go_enter Try.func30, Try.ntmps30
  go_wp2
  go_ret
  exact ⟨rfl, rfl⟩
set_option maxHeartbeats 400000 in
theorem isLow_no (d : Int) (w : World) (h : ¬ (0 ≤ d ∧ d ≤ 62)) :
    Calls Try.prog 30 #[.int .i64 d] w fun e w' => e = .returned (.bool false) ∧ w = w' := by
  by_cases h1 : d < 0
  · clear h
    go_enter Try.func30, Try.ntmps30
    go_wp2
    go_ret
    exact ⟨rfl, rfl⟩
  · have h2 : decide (d ≤ 62) = false := by rw [decide_eq_false_iff_not]; omega
    clear h
    go_enter Try.func30, Try.ntmps30
    go_wp2
    go_ret
    exact ⟨rfl, rfl⟩

set_option maxHeartbeats 400000 in
theorem low_any (d x : Int) (w : World) :
    Calls Try.prog 17 #[.int .i64 d, .int .i64 x] w fun e w' => e = .returned (.int .i64 (lowI d x)) ∧ w = w' := by
  by_cases h : 0 ≤ d ∧ d ≤ 62
  · obtain ⟨h0, h1⟩ := h
    obtain ⟨D, rfl⟩ := Int.eq_ofNat_of_zero_le h0
    have hr := Lib.hid (and_low x (d := D) (by omega))
    have hq := Lib.hid (lowI_yes x (d := D) (by omega))
    go_enter Try.func17, Try.ntmps17
    go_wp2_with (first
      | (go_at_call 30; refine (isLow_yes _ _ h0 h1).mono ?_; rintro e w' ⟨rfl, rfl⟩)
      | (go_at_call 28; refine (lowest_any D _ (by omega)).mono ?_; rintro e w' ⟨rfl, rfl⟩))
    go_ret
    exact ⟨ret_int (hr.out.trans hq.out.symm), rfl⟩
  · have hq := Lib.hid (lowI_no x h)
    go_enter Try.func17, Try.ntmps17
    go_wp2_with (first
      | (go_at_call 30; refine (isLow_no _ _ h).mono ?_; rintro e w' ⟨rfl, rfl⟩))
    go_ret
    exact ⟨ret_int hq.out.symm, rfl⟩

set_option maxHeartbeats 400000 in
theorem refLow_any (d x : Int) (w : World) :
    Calls Try.prog 18 #[.int .i64 d, .int .i64 x] w fun e w' => e = .returned (.int .i64 (lowI d x)) ∧ w = w' := by
  by_cases h0 : d < 0
  · have hq := Lib.hid (lowI_no x (d := d) (by omega))
    go_enter Try.func18, Try.ntmps18
    go_wp2
    go_ret
    exact ⟨ret_int hq.out.symm, rfl⟩
  · by_cases h1 : 62 < d
    · have hq := Lib.hid (lowI_no x (d := d) (by omega))
      go_enter Try.func18, Try.ntmps18
      go_wp2
      go_ret
      exact ⟨ret_int hq.out.symm, rfl⟩
    · obtain ⟨D, rfl⟩ := Int.eq_ofNat_of_zero_le (Int.not_lt.mp h0)
      have hr := Lib.hid (and_low x (d := D) (by omega))
      have hq := Lib.hid (lowI_yes x (d := D) (by omega))
      have hp := pow_cast D
      have p1 := pow_le62 (d := D) (by omega)
      have p0 := Nat.two_pow_pos D
      generalize 2 ^ D = P at hp p1 p0 hr
      go_enter Try.func18, Try.ntmps18
      go_wp2
      go_ret
      exact ⟨ret_int (hr.out.trans hq.out.symm), rfl⟩
end Go.Proofs.Ytkonbkmjodfcoaa
