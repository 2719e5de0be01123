/- Contracts: lists that are alike; what is a poly. -/
import Derived.Test.YtneopnlklhcopaaProg
import Derived.Test.YtneopnlklhcopaaWords
import Derived.Test.YtneopnlklhcopaaPolyD
namespace Go.Proofs.Ytneopnlklhcopaa
open Go.RowKit Slices Go.Proofs.Ytneopnlklhcopaa.Ring

set_option maxHeartbeats 400000 in
theorem same_true (A A' : Option Addr) (c c' B : Nat) (l : List Int) (w : World) (hl : l.length ≤ 4611686018427387904) (h : Has w B A l) (h' : Has w B A' l) :
    Calls Try.prog 18 #[.slice A l.length c, .slice A' l.length c'] w fun e w' => e = .returned (.bool true) ∧ ∃ n, w' = w.drewN n := by
  go_enter Try.func18, Try.ntmps18
  go_wp2
  go_loopw [5] (fun i wr => ∃ k n : Nat, k ≤ l.length ∧ i = .int .i64 k ∧ wr = w.drewN n) (fun i _ => l.length - (intOf i).toNat)
  case atStart => exact ⟨0, 0, Nat.zero_le _, rfl, rfl⟩
  case round =>
    obtain ⟨k, n, hk, rfl, rfl⟩ := hrel
    by_cases hlt : k < l.length
    · obtain ⟨a, rfl, _, ha⟩ := h k hlt
      obtain ⟨a', rfl, _, ha'⟩ := h' k hlt
      go_wp2
      go_quiet (fail)
      go_wp2
      go_roundw
      case rel => exact ⟨k + 1, n + nq, by omega, by go_num, rfl⟩
      case measure => simp [intOf]; omega
    · go_wp2
      go_ret
      exact ⟨rfl, n, rfl⟩


set_option maxHeartbeats 400000 in
theorem may_yes (A : Option Addr) (c B : Nat) (l : List Int) (w : World) (h : Has w B A l) (hp : IsPoly l) :
    Calls Try.prog 25 #[.slice A l.length c] w fun e w' => e = .returned (.bool true) ∧ ∃ n, w' = w.drewN n := by
  have t : ((l.length : Int) == 256) = true := by rw [hp.1]; rfl
  have hle : l.length ≤ 256 := by rw [hp.1]; exact Nat.le_refl _
  have HP := Lib.hid hp
  clear hp
  go_enter Try.func25, Try.ntmps25
  go_wp2
  go_loopw [3] (fun i wr => ∃ k n : Nat, k ≤ l.length ∧ i = .int .i64 k ∧ wr = w.drewN n) (fun i _ => l.length - (intOf i).toNat)
  case atStart => exact ⟨0, 0, Nat.zero_le _, rfl, rfl⟩
  case round =>
    obtain ⟨k, n, hk, rfl, rfl⟩ := hrel
    by_cases hlt : k < l.length
    · obtain ⟨a, rfl, _, ha⟩ := h k hlt
      obtain ⟨x0, x1⟩ := HP.out.2 k (by omega)
      generalize l.getD k 0 = x at ha x0 x1
      go_wp2
      go_roundw
      case rel => exact ⟨k + 1, n, by omega, by go_num, rfl⟩
      case measure => simp [intOf]; omega
    · go_wp2
      go_ret
      exact ⟨rfl, n, rfl⟩

set_option maxRecDepth 100000 in
set_option maxHeartbeats 400000 in
theorem may_short (A : Option Addr) (c : Nat) (n : Nat) (w : World) (hn : n ≤ 4611686018427387904) (hp : n ≠ 256) :
    Calls Try.prog 25 #[.slice A n c] w fun e w' => e = .returned (.bool false) ∧ ∃ n, w' = w.drewN n := by
  have t : ((n : Int) == 256) = false := by rw [beq_eq_false_iff_ne]; omega
  clear hp
  by_cases hl : 0 < n
  · go_enter Try.func25, Try.ntmps25
    go_wp2
    refine wp_loop_rounds 1 ?_
    rw [rounds_succ]
    go_wp2
    go_ret
    exact ⟨rfl, 0, rfl⟩
  · have : n = 0 := by omega
    subst this
    go_enter Try.func25, Try.ntmps25
    go_wp2
    refine wp_loop_rounds 1 ?_
    rw [rounds_succ]
    go_wp2
    go_ret
    exact ⟨rfl, 0, rfl⟩

set_option maxRecDepth 100000 in
set_option maxHeartbeats 400000 in
theorem may_bad (A : Option Addr) (c B : Nat) (l : List Int) (w : World) (h : Has w B A l) (hl : l.length = 256) (j : Nat) (hj : j < 256) (hb : ¬ okN (l.getD j 0)) :
    Calls Try.prog 25 #[.slice A l.length c] w fun e w' => e = .returned (.bool false) ∧ ∃ n, w' = w.drewN n := by
  have t : ((l.length : Int) == 256) = true := by rw [hl]; rfl
  have hle : l.length ≤ 256 := by omega
  have hge : 256 ≤ l.length := by omega
  have HB := Lib.hid hb
  clear hb hl
  go_enter Try.func25, Try.ntmps25
  go_wp2
  go_loopw [3] (fun i wr => ∃ k n : Nat, k ≤ j ∧ i = .int .i64 k ∧ wr = w.drewN n) (fun i _ => l.length - (intOf i).toNat)
  case atStart => exact ⟨0, 0, Nat.zero_le _, rfl, rfl⟩
  case round =>
    obtain ⟨k, n, hk, rfl, rfl⟩ := hrel
    have hlt : k < l.length := by omega
    obtain ⟨a, rfl, _, ha⟩ := h k hlt
    by_cases hx : okN (l.getD k 0)
    · have hne : k ≠ j := fun e => HB.out (e ▸ hx)
      have hk' : k + 1 ≤ j := by omega
      clear hne
      obtain ⟨x0, x1⟩ := hx
      generalize l.getD k 0 = x at ha x0 x1
      go_wp2
      go_roundw
      case rel => exact ⟨k + 1, n, by omega, by go_num, rfl⟩
      case measure => simp [intOf]; omega
    · unfold okN at hx
      generalize l.getD k 0 = x at ha hx
      by_cases x0 : x < 0
      · clear hx
        go_wp2
        go_ret
        exact ⟨rfl, n, rfl⟩
      · have x1 : 8380417 ≤ x := by omega
        clear hx
        go_wp2
        go_ret
        exact ⟨rfl, n, rfl⟩

theorem may_no (A : Option Addr) (c B : Nat) (l : List Int) (w : World) (h : Has w B A l) (hn : l.length ≤ 4611686018427387904) (hp : ¬ IsPoly l) :
    Calls Try.prog 25 #[.slice A l.length c] w fun e w' => e = .returned (.bool false) ∧ ∃ n, w' = w.drewN n := by
  by_cases hl : l.length = 256
  · obtain ⟨j, hj, hb⟩ : ∃ j, j < 256 ∧ ¬ okN (l.getD j 0) := by
      apply Classical.byContradiction
      intro hne
      exact hp ⟨hl, fun k hk => Classical.byContradiction fun g => hne ⟨k, hk, g⟩⟩
    exact may_bad A c B l w h hl j hj hb
  · exact may_short A c l.length w hn hl
end Go.Proofs.Ytneopnlklhcopaa
