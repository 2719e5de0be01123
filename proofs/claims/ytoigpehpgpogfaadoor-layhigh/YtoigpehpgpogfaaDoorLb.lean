/- Contracts: how wide bounds are, what a poly is, a number modulo q, by the document's own code. -/
import Derived.Test.YtoigpehpgpogfaaDoorJ
import Derived.Test.YtoigpehpgpogfaaDoorLa
import Derived.Test.YtoigpehpgpogfaaDoorEe
namespace Go.Proofs.YtoigpehpgpogfaaDoor
open Go.RowKit Slices Go.Proofs.YtoigpehpgpogfaaDoor.Bit

def rOf (x : Int) : Int := x % 8380417
theorem tmod_cases (x : Int) : (0 ≤ x ∧ x.tmod 8380417 = x % 8380417) ∨ (x < 0 ∧ x.tmod 8380417 = -((-x) % 8380417)) := by
  by_cases h : 0 ≤ x
  · exact .inl ⟨h, Int.tmod_eq_emod_of_nonneg h⟩
  · refine .inr ⟨by omega, ?_⟩
    have : (-x).tmod 8380417 = (-x) % 8380417 := Int.tmod_eq_emod_of_nonneg (by omega)
    rw [← this, Int.neg_tmod, Int.neg_neg]
theorem tmod_lo (x : Int) : -8380416 ≤ x.tmod 8380417 := by have := tmod_cases x; omega
theorem tmod_hi (x : Int) : x.tmod 8380417 ≤ 8380416 := by have := tmod_cases x; omega
theorem tmod_ref (x : Int) : (x.tmod 8380417 + 8380417) % 8380417 = rOf x := by have := tmod_cases x; unfold rOf; omega


set_option maxHeartbeats 400000 in
theorem refOf_any (x : Int) (w : World) :
    Calls Tryd.prog 49 #[.int .i64 x] w fun e w' => e = .returned (.int .i64 (rOf x)) ∧ w = w' := by
  have h0 := tmod_lo x
  have h1 := tmod_hi x
  go_enter Tryd.func49, Tryd.ntmps49
  go_wp2
  go_ret
  exact ⟨ret_int (tmod_ref x), rfl⟩

set_option maxHeartbeats 400000 in
theorem width_in (a b : Int) (w : World) (h : Bounds a b) :
    Calls Tryd.prog 45 #[.int .i64 a, .int .i64 b] w fun e w' => e = .returned (.int .i64 (widthI a b)) ∧ w = w' := by
  have hw := width_yes h
  obtain ⟨a0, b0, a1, b1⟩ := h
  have c1 : decide (1048576 < a) = false := by rw [decide_eq_false_iff_not]; omega
  have c2 : decide (1048576 < b) = false := by rw [decide_eq_false_iff_not]; omega
  have c3 : decide (a < 0) = false := by rw [decide_eq_false_iff_not]; omega
  have c4 : decide (b < 0) = false := by rw [decide_eq_false_iff_not]; omega
  obtain ⟨n, hn⟩ : ∃ n : Nat, a + b = n := ⟨(a + b).toNat, by omega⟩
  have hd : Hid (0 + blen n = widthI a b) := by show 0 + blen n = widthI a b; rw [hw, hn]; simp
  have n1 : n ≤ 2097152 := by omega
  clear hw
  go_enter Tryd.func45, Tryd.ntmps45
  go_wp2
  go_loop [5, 6] (fun d i => ∃ k m : Nat, k ≤ 22 ∧ m ≤ 2097152 ∧ d = .int .i64 k ∧ i = .int .i64 m ∧ k + blen m = widthI a b) (fun _ i => (intOf i).toNat)
  case atStart => exact ⟨0, n, by omega, n1, rfl, rfl, hd.out⟩
  case round =>
    obtain ⟨k, m, hk, hm, rfl, rfl, he⟩ := hrel
    have hle := width_le a b
    have HE := Lib.hid he
    by_cases h0 : 0 < m
    · have hs := blen_step h0
      have hk2 : k + 1 ≤ 22 := by omega
      have HS := Lib.hid hs
      clear hs hle he
      go_wp2
      go_round
      case rel => exact ⟨k + 1, m / 2, by omega, by omega, by go_num, by go_num, by have := HE.out; have := HS.out; omega⟩
      case measure => simp [intOf]; omega
    · have e : m = 0 := by omega
      subst e
      clear hle he
      go_wp2
      go_ret
      exact ⟨ret_int (by have := HE.out; rw [blen_zero] at this; omega), rfl⟩
theorem width_out (a b : Int) (w : World) (h : ¬ Bounds a b) :
    Calls Tryd.prog 45 #[.int .i64 a, .int .i64 b] w fun e w' => e = .returned (.int .i64 (widthI a b)) ∧ w = w' := by
  rw [width_no h]
  unfold Bounds at h
  by_cases c1 : a < 0
  · clear h
    go_enter Tryd.func45, Tryd.ntmps45
    go_wp2
    go_ret
    exact ⟨rfl, rfl⟩
  · by_cases c2 : b < 0
    · have d1 : decide (a < 0) = false := by rw [decide_eq_false_iff_not]; omega
      clear h
      go_enter Tryd.func45, Tryd.ntmps45
      go_wp2
      go_ret
      exact ⟨rfl, rfl⟩
    · have d1 : decide (a < 0) = false := by rw [decide_eq_false_iff_not]; omega
      have d2 : decide (b < 0) = false := by rw [decide_eq_false_iff_not]; omega
      by_cases c3 : 1048576 < a
      · clear h
        go_enter Tryd.func45, Tryd.ntmps45
        go_wp2
        go_ret
        exact ⟨rfl, rfl⟩
      · have d3 : decide (1048576 < a) = false := by rw [decide_eq_false_iff_not]; omega
        have c4 : 1048576 < b := by omega
        clear h
        go_enter Tryd.func45, Tryd.ntmps45
        go_wp2
        go_ret
        exact ⟨rfl, rfl⟩
theorem width_any (a b : Int) (w : World) :
    Calls Tryd.prog 45 #[.int .i64 a, .int .i64 b] w fun e w' => e = .returned (.int .i64 (widthI a b)) ∧ w = w' := by
  by_cases h : Bounds a b
  · exact width_in a b w h
  · exact width_out a b w h

set_option maxHeartbeats 400000 in
theorem may_yes (A : Option Addr) (c B : Nat) (l : List Int) (w : World) (h : Has .i64 w B A l) (hp : IsPoly l) :
    Calls Tryd.prog 46 #[.slice A l.length c] w fun e w' => e = .returned (.bool true) ∧ ∃ n, w' = w.drewN n := by
  have t : ((l.length : Int) == 256) = true := by rw [hp.1]; rfl
  have hle : l.length ≤ 256 := by rw [hp.1]; exact Nat.le_refl _
  have HP := Lib.hid hp
  clear hp
  go_enter Tryd.func46, Tryd.ntmps46
  go_wp2
  go_loopw [3] (fun i wr => ∃ k n : Nat, k ≤ l.length ∧ i = .int .i64 k ∧ wr = w.drewN n) (fun i _ => l.length - (intOf i).toNat)
  case atStart => exact ⟨0, 0, Nat.zero_le _, rfl, rfl⟩
  case round =>
    obtain ⟨k, n, hk, rfl, rfl⟩ := hrel
    by_cases hlt : k < l.length
    · obtain ⟨a, rfl, _, ha⟩ := h k hlt
      obtain ⟨x0, x1⟩ := HP.out.2 k (by omega)
      generalize l.getD k 0 = x at ha x0 x1
      go_wp2
      go_roundw
      case rel => exact ⟨k + 1, n, by omega, by go_num, rfl⟩
      case measure => simp [intOf]; omega
    · go_wp2
      go_ret
      exact ⟨rfl, n, rfl⟩

set_option maxRecDepth 100000 in
set_option maxHeartbeats 400000 in
theorem may_short (A : Option Addr) (c : Nat) (n : Nat) (w : World) (hn : n ≤ 4611686018427387904) (hp : n ≠ 256) :
    Calls Tryd.prog 46 #[.slice A n c] w fun e w' => e = .returned (.bool false) ∧ ∃ n, w' = w.drewN n := by
  have t : ((n : Int) == 256) = false := by rw [beq_eq_false_iff_ne]; omega
  clear hp
  by_cases hl : 0 < n
  · go_enter Tryd.func46, Tryd.ntmps46
    go_wp2
    refine wp_loop_rounds 1 ?_
    rw [rounds_succ]
    go_wp2
    go_ret
    exact ⟨rfl, 0, rfl⟩
  · have : n = 0 := by omega
    subst this
    go_enter Tryd.func46, Tryd.ntmps46
    go_wp2
    refine wp_loop_rounds 1 ?_
    rw [rounds_succ]
    go_wp2
    go_ret
    exact ⟨rfl, 0, rfl⟩

set_option maxRecDepth 100000 in
set_option maxHeartbeats 400000 in
theorem may_bad (A : Option Addr) (c B : Nat) (l : List Int) (w : World) (h : Has .i64 w B A l) (hl : l.length = 256) (j : Nat) (hj : j < 256) (hb : ¬ okN (l.getD j 0)) :
    Calls Tryd.prog 46 #[.slice A l.length c] w fun e w' => e = .returned (.bool false) ∧ ∃ n, w' = w.drewN n := by
  have t : ((l.length : Int) == 256) = true := by rw [hl]; rfl
  have hle : l.length ≤ 256 := by omega
  have hge : 256 ≤ l.length := by omega
  have HB := Lib.hid hb
  clear hb hl
  go_enter Tryd.func46, Tryd.ntmps46
  go_wp2
  go_loopw [3] (fun i wr => ∃ k n : Nat, k ≤ j ∧ i = .int .i64 k ∧ wr = w.drewN n) (fun i _ => l.length - (intOf i).toNat)
  case atStart => exact ⟨0, 0, Nat.zero_le _, rfl, rfl⟩
  case round =>
    obtain ⟨k, n, hk, rfl, rfl⟩ := hrel
    have hlt : k < l.length := by omega
    obtain ⟨a, rfl, _, ha⟩ := h k hlt
    by_cases hx : okN (l.getD k 0)
    · have hne : k ≠ j := fun e => HB.out (e ▸ hx)
      have hk' : k + 1 ≤ j := by omega
      clear hne
      obtain ⟨x0, x1⟩ := hx
      generalize l.getD k 0 = x at ha x0 x1
      go_wp2
      go_roundw
      case rel => exact ⟨k + 1, n, by omega, by go_num, rfl⟩
      case measure => simp [intOf]; omega
    · unfold okN at hx
      generalize l.getD k 0 = x at ha hx
      by_cases x0 : x < 0
      · clear hx
        go_wp2
        go_ret
        exact ⟨rfl, n, rfl⟩
      · have x1 : 8380417 ≤ x := by omega
        clear hx
        go_wp2
        go_ret
        exact ⟨rfl, n, rfl⟩

theorem may_no (A : Option Addr) (c B : Nat) (l : List Int) (w : World) (h : Has .i64 w B A l) (hn : l.length ≤ 4611686018427387904) (hp : ¬ IsPoly l) :
    Calls Tryd.prog 46 #[.slice A l.length c] w fun e w' => e = .returned (.bool false) ∧ ∃ n, w' = w.drewN n := by
  by_cases hl : l.length = 256
  · obtain ⟨j, hj, hb⟩ : ∃ j, j < 256 ∧ ¬ okN (l.getD j 0) := by
      apply Classical.byContradiction
      intro hne
      exact hp ⟨hl, fun k hk => Classical.byContradiction fun g => hne ⟨k, hk, g⟩⟩
    exact may_bad A c B l w h hl j hj hb
  · exact may_short A c l.length w hn hl
end Go.Proofs.YtoigpehpgpogfaaDoor
