/- Contracts: the program's small functions: bounds, widths, a number modulo q, the greatest and the least of a list. -/
import Derived.Test.YtoigpehpgpogfaaDoorLb
import Derived.Test.YtoigpehpgpogfaaDoorGb
namespace Go.Proofs.YtoigpehpgpogfaaDoor
open Go.RowKit Slices Go.Proofs.YtoigpehpgpogfaaDoor.Bit

theorem tmod_ng (x : Int) (h : x.tmod 8380417 < 0) : x.tmod 8380417 + 8380417 = rOf x := by have := tmod_cases x; unfold rOf; omega
theorem tmod_nn (x : Int) (h : 0 ≤ x.tmod 8380417) : x.tmod 8380417 = rOf x := by have := tmod_cases x; unfold rOf; omega

set_option maxHeartbeats 400000 in
theorem modulo_q (x : Int) (w : World) :
    Calls Tryd.prog 74 #[.int .i64 8380417, .int .i64 x] w fun e w' => e = .returned (.int .i64 (rOf x)) ∧ w = w' := by
  have h0 := tmod_lo x
  have h1 := tmod_hi x
  go_enter Tryd.func74, Tryd.ntmps74
  by_cases h : x.tmod 8380417 < 0
  · go_wp2
    go_ret
    exact ⟨ret_int (tmod_ng x h), rfl⟩
  · have h' : 0 ≤ x.tmod 8380417 := by omega
    go_wp2
    go_ret
    exact ⟨ret_int (tmod_nn x h'), rfl⟩

set_option maxHeartbeats 400000 in
theorem of_any (x : Int) (w : World) :
    Calls Tryd.prog 60 #[.int .i64 x] w fun e w' => e = .returned (.int .i64 (rOf x)) ∧ w = w' := by
  go_enter Tryd.func60, Tryd.ntmps60
  go_wp2_with (go_at_call 74; refine (modulo_q _ _).mono ?_; rintro e w' ⟨rfl, rfl⟩)
  go_ret
  exact ⟨rfl, rfl⟩

theorem isBound_any (x : Int) (w : World) :
    Calls Tryd.prog 59 #[.int .i64 x] w fun e w' => e = .returned (.bool (decide (0 ≤ x) && decide (x ≤ 1048576))) ∧ w = w' := by
  go_enter Tryd.func59, Tryd.ntmps59
  by_cases h : 0 ≤ x
  · have d : decide (0 ≤ x) = true := by rw [decide_eq_true_iff]; exact h
    rw [d, Bool.true_and]
    by_cases g : x ≤ 1048576
    · have d2 : decide (x ≤ 1048576) = true := by rw [decide_eq_true_iff]; exact g
      rw [d2]
      go_wp2
      go_ret
      exact ⟨rfl, rfl⟩
    · have d2 : decide (x ≤ 1048576) = false := by rw [decide_eq_false_iff_not]; exact g
      rw [d2]
      go_wp2
      go_ret
      exact ⟨rfl, rfl⟩
  · have d : decide (0 ≤ x) = false := by rw [decide_eq_false_iff_not]; exact h
    rw [d, Bool.false_and]
    go_wp2
    go_ret
    exact ⟨rfl, rfl⟩

/-- bounds that may be, and not both 0 -/
def wideB (a b : Int) : Bool := decide (1 ≤ widthI a b)
theorem wide_pos {a b : Int} (h : Bounds a b) (hp : 0 < a + b) : 1 ≤ widthI a b := by
  rw [width_yes h]; exact blen_pos (by omega)
theorem wide_zero {a b : Int} (h : Bounds a b) (hp : ¬ 0 < a + b) : widthI a b = 0 := by
  rw [width_yes h]
  have : (a + b).toNat = 0 := by omega
  rw [this]; rfl
theorem isBound_as (x : Int) (v : Bool) (w : World) (h : (decide (0 ≤ x) && decide (x ≤ 1048576)) = v) :
    Calls Tryd.prog 59 #[.int .i64 x] w fun e w' => e = .returned (.bool v) ∧ w = w' := by
  subst h; exact isBound_any x w

set_option maxHeartbeats 1000000 in
theorem areBounds_any (a b : Int) (w : World) :
    Calls Tryd.prog 37 #[.int .i64 a, .int .i64 b] w fun e w' => e = .returned (.bool (wideB a b)) ∧ w = w' := by
  by_cases h : Bounds a b
  · obtain ⟨a0, b0, a1, b1⟩ := h
    have ha : (decide (0 ≤ a) && decide (a ≤ 1048576)) = true := by simp [a0, a1]
    have hb : (decide (0 ≤ b) && decide (b ≤ 1048576)) = true := by simp [b0, b1]
    by_cases hp : 0 < a + b
    · have e : wideB a b = true := by unfold wideB; rw [decide_eq_true_iff]; exact wide_pos ⟨a0, b0, a1, b1⟩ hp
      rw [e]
      go_enter Tryd.func37, Tryd.ntmps37
      go_wp2_with (go_at_call 59; first | ((with_reducible refine (isBound_as a true _ ha).mono ?_); rintro e w' ⟨rfl, rfl⟩) | ((with_reducible refine (isBound_as b true _ hb).mono ?_); rintro e w' ⟨rfl, rfl⟩))
      go_ret
      exact ⟨rfl, rfl⟩
    · have e : wideB a b = false := by unfold wideB; rw [decide_eq_false_iff_not, wide_zero ⟨a0, b0, a1, b1⟩ hp]; omega
      have d0 : decide (0 < a + b) = false := by rw [decide_eq_false_iff_not]; exact hp
      rw [e]
      go_enter Tryd.func37, Tryd.ntmps37
      go_wp2_with (go_at_call 59; first | ((with_reducible refine (isBound_as a true _ ha).mono ?_); rintro e w' ⟨rfl, rfl⟩) | ((with_reducible refine (isBound_as b true _ hb).mono ?_); rintro e w' ⟨rfl, rfl⟩))
      go_ret
      exact ⟨rfl, rfl⟩
  · have e : wideB a b = false := by unfold wideB; rw [decide_eq_false_iff_not, width_no h]; omega
    rw [e]
    unfold Bounds at h
    by_cases g : 0 ≤ a ∧ a ≤ 1048576
    · have ha : (decide (0 ≤ a) && decide (a ≤ 1048576)) = true := by simp [g.1, g.2]
      have hb : (decide (0 ≤ b) && decide (b ≤ 1048576)) = false := by
        rw [Bool.and_eq_false_iff, decide_eq_false_iff_not, decide_eq_false_iff_not]; omega
      clear h g
      go_enter Tryd.func37, Tryd.ntmps37
      go_wp2_with (go_at_call 59; first | ((with_reducible refine (isBound_as a true _ ha).mono ?_); rintro e w' ⟨rfl, rfl⟩) | ((with_reducible refine (isBound_as b false _ hb).mono ?_); rintro e w' ⟨rfl, rfl⟩))
      go_ret
      exact ⟨rfl, rfl⟩
    · have ha : (decide (0 ≤ a) && decide (a ≤ 1048576)) = false := by
        rw [Bool.and_eq_false_iff, decide_eq_false_iff_not, decide_eq_false_iff_not]; omega
      clear h g
      go_enter Tryd.func37, Tryd.ntmps37
      go_wp2_with (go_at_call 59; ((with_reducible refine (isBound_as a false _ ha).mono ?_); rintro e w' ⟨rfl, rfl⟩))
      go_ret
      exact ⟨rfl, rfl⟩

theorem sizeW_any (d : Nat) (w : World) (h : d ≤ 1000) :
    Calls Tryd.prog 42 #[.int .i64 d] w fun e w' => e = .returned (.int .i64 (32 * d : Nat)) ∧ w = w' := by
  go_enter Tryd.func42, Tryd.ntmps42
  go_wp2
  go_ret
  exact ⟨ret_int (by omega), rfl⟩

set_option maxHeartbeats 400000 in
theorem widthOf_any (n : Nat) (w : World) (n1 : n ≤ 2097152) :
    Calls Tryd.prog 41 #[.int .i64 n] w fun e w' => e = .returned (.int .i64 (blen n)) ∧ w = w' := by
  obtain ⟨N, hN⟩ : ∃ N, N = blen n := ⟨_, rfl⟩
  have hle : N ≤ 22 := by rw [hN]; exact blen_le 22 _ (by omega)
  have hd : Hid (0 + blen n = N) := by show 0 + blen n = N; rw [hN]; omega
  rw [← hN]
  clear hN
  go_enter Tryd.func41, Tryd.ntmps41
  go_wp2
  go_loop [0, 3] (fun i d => ∃ k m : Nat, k ≤ 22 ∧ m ≤ 2097152 ∧ d = .int .i64 k ∧ i = .int .i64 m ∧ k + blen m = N) (fun i _ => (intOf i).toNat)
  case atStart => exact ⟨0, n, by omega, n1, rfl, rfl, hd.out⟩
  case round =>
    obtain ⟨k, m, hk, hm, rfl, rfl, he⟩ := hrel
    have HE := Lib.hid he
    by_cases h0 : 0 < m
    · have hs := blen_step h0
      have hk2 : k + 1 ≤ 22 := by omega
      have HS := Lib.hid hs
      clear hs he
      go_wp2
      go_round
      case rel => exact ⟨k + 1, m / 2, by omega, by omega, by go_num, by go_num, by have := HE.out; have := HS.out; omega⟩
      case measure => simp [intOf]; omega
    · have e : m = 0 := by omega
      subst e
      clear he
      go_wp2
      go_ret
      exact ⟨ret_int (by have := HE.out; rw [blen_zero] at this; omega), rfl⟩

set_option maxHeartbeats 400000 in
theorem pMay_yes (A : Option Addr) (c B : Nat) (l : List Int) (w : World) (h : Has .i64 w B A l) (hp : IsPoly l) :
    Calls Tryd.prog 38 #[.slice A l.length c] w fun e w' => e = .returned (.bool true) ∧ ∃ n, w' = w.drewN n := by
  have t : ((l.length : Int) != 256) = false := by rw [hp.1]; rfl
  have hle : l.length ≤ 256 := by rw [hp.1]; exact Nat.le_refl _
  have HP := Lib.hid hp
  clear hp
  go_enter Tryd.func38, Tryd.ntmps38
  go_wp2
  go_loopw [10] (fun i wr => ∃ k : Nat, k ≤ l.length ∧ i = .int .i64 k ∧ wr = w) (fun i _ => l.length - (intOf i).toNat)
  case atStart => exact ⟨0, Nat.zero_le _, rfl, rfl⟩
  case round =>
    obtain ⟨k, hk, rfl, rfl⟩ := hrel
    by_cases hlt : k < l.length
    · obtain ⟨a, rfl, _, ha⟩ := h k hlt
      obtain ⟨x0, x1⟩ := HP.out.2 k (by omega)
      generalize l.getD k 0 = x at ha x0 x1
      go_wp2
      go_roundw
      case rel => exact ⟨k + 1, by omega, by go_num, trivial⟩
      case measure => simp [intOf]; omega
    · go_wp2
      go_ret
      exact ⟨rfl, 0, rfl⟩

set_option maxRecDepth 100000 in
set_option maxHeartbeats 400000 in
theorem pMay_short (A : Option Addr) (c : Nat) (n : Nat) (w : World) (hp : n ≠ 256) :
    Calls Tryd.prog 38 #[.slice A n c] w fun e w' => e = .returned (.bool false) ∧ ∃ n, w' = w.drewN n := by
  have t : ((n : Int) != 256) = true := by simp; omega
  clear hp
  go_enter Tryd.func38, Tryd.ntmps38
  go_wp2
  go_ret
  exact ⟨rfl, 0, rfl⟩

set_option maxRecDepth 100000 in
set_option maxHeartbeats 400000 in
theorem pMay_bad (A : Option Addr) (c B : Nat) (l : List Int) (w : World) (h : Has .i64 w B A l) (hl : l.length = 256) (j : Nat) (hj : j < 256) (hb : ¬ okN (l.getD j 0)) :
    Calls Tryd.prog 38 #[.slice A l.length c] w fun e w' => e = .returned (.bool false) ∧ ∃ n, w' = w.drewN n := by
  have t : ((l.length : Int) != 256) = false := by rw [hl]; rfl
  have hle : l.length ≤ 256 := by omega
  have hge : 256 ≤ l.length := by omega
  have HB := Lib.hid hb
  clear hb hl
  go_enter Tryd.func38, Tryd.ntmps38
  go_wp2
  go_loopw [10] (fun i wr => ∃ k : Nat, k ≤ j ∧ i = .int .i64 k ∧ wr = w) (fun i _ => l.length - (intOf i).toNat)
  case atStart => exact ⟨0, Nat.zero_le _, rfl, rfl⟩
  case round =>
    obtain ⟨k, hk, rfl, rfl⟩ := hrel
    have hlt : k < l.length := by omega
    obtain ⟨a, rfl, _, ha⟩ := h k hlt
    by_cases hx : okN (l.getD k 0)
    · have hne : k ≠ j := fun e => HB.out (e ▸ hx)
      have hk' : k + 1 ≤ j := by omega
      clear hne
      obtain ⟨x0, x1⟩ := hx
      generalize l.getD k 0 = x at ha x0 x1
      go_wp2
      go_roundw
      case rel => exact ⟨k + 1, by omega, by go_num, trivial⟩
      case measure => simp [intOf]; omega
    · unfold okN at hx
      generalize l.getD k 0 = x at ha hx
      by_cases x0 : x < 0
      · clear hx
        go_wp2
        go_ret
        exact ⟨rfl, 0, rfl⟩
      · have x1 : 8380417 ≤ x := by omega
        clear hx
        go_wp2
        go_ret
        exact ⟨rfl, 0, rfl⟩

theorem pMay_no (A : Option Addr) (c B : Nat) (l : List Int) (w : World) (h : Has .i64 w B A l) (hp : ¬ IsPoly l) :
    Calls Tryd.prog 38 #[.slice A l.length c] w fun e w' => e = .returned (.bool false) ∧ ∃ n, w' = w.drewN n := by
  by_cases hl : l.length = 256
  · obtain ⟨j, hj, hb⟩ : ∃ j, j < 256 ∧ ¬ okN (l.getD j 0) := by
      apply Classical.byContradiction
      intro hne
      exact hp ⟨hl, fun k hk => Classical.byContradiction fun g => hne ⟨k, hk, g⟩⟩
    exact pMay_bad A c B l w h hl j hj hb
  · exact pMay_short A c l.length w hl
end Go.Proofs.YtoigpehpgpogfaaDoor
