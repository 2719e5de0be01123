/- Contracts: the program's small functions. -/
import Derived.Test.YtneopnlklhcopaaM
namespace Go.Proofs.Ytneopnlklhcopaa
open Go.RowKit Slices Go.Proofs.Ytneopnlklhcopaa.Ring

set_option maxHeartbeats 400000 in
theorem isLow_yes (d : Int) (w : World) (h1 : 0 ≤ d) (h2 : d ≤ 62) :
    Calls Try.prog 52 #[.int .i64 d] w fun e w' => e = .returned (.bool true) ∧ w = w' := by
  go_enter Try.func52, Try.ntmps52
  go_wp2
  go_ret
  exact ⟨rfl, rfl⟩
theorem wraps_i64 (n : Int) (h₀ : 0 ≤ n) (h₁ : n < 2 ^ 63) : IntKind.i64.wrap n = n := by rw [IntKind.wrap_i64]; omega
theorem turn_or {t y : Int} (h0 : 0 ≤ t) (h1 : t < 2305843009213693952) : bits .or .i64 (t * 2) (y % 2) = 2 * t + y % 2 := by
  rw [bits_join .i64 63 (by decide) (fun n a b => wraps_i64 n a b) 1 _ _ (by omega) (by omega) (by omega) (by omega) (by omega) (by omega)]
  omega
theorem div_next (x : Int) (k : Nat) : x / 2 ^ k / 2 = x / 2 ^ (k + 1) := by
  rw [Int.pow_succ, Int.ediv_ediv_of_nonneg (Int.le_of_lt (Int.pow_pos (by omega)))]

set_option maxHeartbeats 400000 in
theorem turn8 (x : Int) (w : World) :
    Calls Try.prog 44 #[.int .i64 8, .int .i64 x] w fun e w' => e = .returned (.int .i64 (turn x)) ∧ w = w' := by
  have hz : Hid (x = x / 2 ^ 0) := by show x = x / 2 ^ 0; simp
  go_enter Try.func44, Try.ntmps44
  go_wp2_with (first
    | (go_at_call 52; refine (isLow_yes _ _ (by omega) (by omega)).mono ?_; rintro e w' ⟨rfl, rfl⟩))
  go_loop [1, 5, 10] (fun y t i => ∃ k : Nat, k ≤ 8 ∧ i = .int .i64 k ∧ t = .int .i64 (tpart x k) ∧ y = .int .i64 (x / 2 ^ k)) (fun _ _ i => 8 - (intOf i).toNat)
  case atStart => exact ⟨0, Nat.zero_le _, rfl, rfl, congrArg _ hz.out⟩
  case round =>
    obtain ⟨k, hk, rfl, rfl, rfl⟩ := hrel
    by_cases hlt : k < 8
    · obtain ⟨t0, t1⟩ := tpart_bd x k hk
      have hn := Lib.hid (div_next x k)
      have he : Hid (tpart x (k + 1) = 2 * tpart x k + x / 2 ^ k % 2) := rfl
      generalize x / 2 ^ k = y at hn he
      generalize tpart x k = t at t0 t1 he
      have hb := and1 y
      have ho := turn_or (t := t) (y := y) t0 (by omega)
      go_wp2
      go_round
      case rel => exact ⟨k + 1, by omega, by go_num, congrArg _ he.out.symm, congrArg _ hn.out⟩
      case measure => simp [intOf]; omega
    · have e : k = 8 := by omega
      subst e
      go_wp2
      go_ret
      exact ⟨ret_int (tpart_8 x), rfl⟩

set_option maxHeartbeats 400000 in
theorem root_any (i : Int) (w : World) :
    Calls Try.prog 26 #[.int .i64 i] w fun e w' => e = .returned (.int .i64 (rRoot i)) ∧ w = w' := by
  have t0 : turn i ≤ 255 := (turn_bd i).2
  go_enter Try.func26, Try.ntmps26
  go_wp2_with (first | (go_at_call 44; refine (turn8 _ _).mono ?_; rintro e w' ⟨rfl, rfl⟩) | (go_at_call 39; refine (pow_any _ _ _ (by omega)).mono ?_; rintro e w' ⟨rfl, rfl⟩))
  go_ret
  exact ⟨rfl, rfl⟩

set_option maxHeartbeats 400000 in
theorem norm_any (x : Int) (w : World) :
    Calls Try.prog 48 #[.int .i64 x] w fun e w' => e = .returned (.int .i64 (norm x)) ∧ w = w' := by
  have h0 := rOf_lo x
  have h1 := rOf_hi x
  go_enter Try.func48, Try.ntmps48
  go_wp2_with (go_at_call 37; refine (of_any _ _).mono ?_; rintro e w' ⟨rfl, rfl⟩)
  all_goals
    go_ret
    exact ⟨ret_int (by unfold norm; split <;> omega), rfl⟩

set_option maxRecDepth 100000 in
set_option maxHeartbeats 400000 in
theorem clone_any (a : Addr) (c : Nat) (l : List Int) (w : World) (h : Has w w.heap.size (some a) l) (hl : 0 < l.length) (hb : l.length ≤ 300) :
    Calls Try.prog 40 #[.slice (some a) l.length c] w (Gives w l) := by
  obtain ⟨i0, hi0, hz0, hz1, hz2⟩ := info_parts Try.info3
  obtain ⟨a', e, hab, hc⟩ := h.addr hl
  injection e with e
  subst e
  have HC := Lib.hid hc
  have q22 := Lib.run_eql_slice_nil (P := Try.prog) w 22 3 (some a) l.length c 0 0 Try.underlying22
  clear hc h
  go_enter Try.func40, Try.ntmps40
  go_wp2_with (at_builtin; refine wpList_append_own _ rfl _ _ 22 rfl w.heap.size 3 i0 (.int .i64 0) 1 8 Try.underlying22 hi0 hz0 hz1 hz2 rfl (by decide) _ _ _ rfl (World.ownsRow_made w #[] 0 (Nat.le_refl _) (Nat.zero_le _) rfl) a l.length c (ints l) rfl (by rw [ints_length]; omega) ?hc (ints_one l) (by unfold maxLen; omega) (by omega) ?hs ?_)
  case hc => intro j u hu; exact Lib.cell?_alloc_some _ (HC.out j u hu)
  case hs => simp
  intro v1 w1 hown hgrow hnil
  obtain ⟨g, c1, rfl, hg⟩ := own_form hown hl
  have HO := Lib.hid hown
  have HG := Lib.hid hgrow
  clear hown hgrow hnil
  go_wp2
  go_ret
  exact ⟨g, c1, rfl, HO.out, ((Below.refl _ w).alloc (Nat.le_refl _) _).grown HG.out (by simp) (by intro k hk; simp [Value.ownBlock] at hk; omega)⟩

set_option maxHeartbeats 400000 in
theorem pMay_yes (A : Option Addr) (c B : Nat) (l : List Int) (w : World) (h : Has w B A l) (hp : IsPoly l) :
    Calls Try.prog 24 #[.slice A l.length c] w fun e w' => e = .returned (.bool true) ∧ ∃ n, w' = w.drewN n := by
  have t : ((l.length : Int) != 256) = false := by rw [hp.1]; rfl
  have hle : l.length ≤ 256 := by rw [hp.1]; exact Nat.le_refl _
  have HP := Lib.hid hp
  clear hp
  go_enter Try.func24, Try.ntmps24
  go_wp2
  go_loopw [10] (fun i wr => ∃ k : Nat, k ≤ l.length ∧ i = .int .i64 k ∧ wr = w) (fun i _ => l.length - (intOf i).toNat)
  case atStart => exact ⟨0, Nat.zero_le _, rfl, rfl⟩
  case round =>
    obtain ⟨k, hk, rfl, rfl⟩ := hrel
    by_cases hlt : k < l.length
    · obtain ⟨a, rfl, _, ha⟩ := h k hlt
      obtain ⟨x0, x1⟩ := HP.out.2 k (by omega)
      generalize l.getD k 0 = x at ha x0 x1
      go_wp2
      go_roundw
      case rel => exact ⟨k + 1, by omega, by go_num, trivial⟩
      case measure => simp [intOf]; omega
    · go_wp2
      go_ret
      exact ⟨rfl, 0, rfl⟩

set_option maxRecDepth 100000 in
set_option maxHeartbeats 400000 in
theorem pMay_short (A : Option Addr) (c : Nat) (n : Nat) (w : World) (hp : n ≠ 256) :
    Calls Try.prog 24 #[.slice A n c] w fun e w' => e = .returned (.bool false) ∧ ∃ n, w' = w.drewN n := by
  have t : ((n : Int) != 256) = true := by simp; omega
  clear hp
  go_enter Try.func24, Try.ntmps24
  go_wp2
  go_ret
  exact ⟨rfl, 0, rfl⟩

set_option maxRecDepth 100000 in
set_option maxHeartbeats 400000 in
theorem pMay_bad (A : Option Addr) (c B : Nat) (l : List Int) (w : World) (h : Has w B A l) (hl : l.length = 256) (j : Nat) (hj : j < 256) (hb : ¬ okN (l.getD j 0)) :
    Calls Try.prog 24 #[.slice A l.length c] w fun e w' => e = .returned (.bool false) ∧ ∃ n, w' = w.drewN n := by
  have t : ((l.length : Int) != 256) = false := by rw [hl]; rfl
  have hle : l.length ≤ 256 := by omega
  have hge : 256 ≤ l.length := by omega
  have HB := Lib.hid hb
  clear hb hl
  go_enter Try.func24, Try.ntmps24
  go_wp2
  go_loopw [10] (fun i wr => ∃ k : Nat, k ≤ j ∧ i = .int .i64 k ∧ wr = w) (fun i _ => l.length - (intOf i).toNat)
  case atStart => exact ⟨0, Nat.zero_le _, rfl, rfl⟩
  case round =>
    obtain ⟨k, hk, rfl, rfl⟩ := hrel
    have hlt : k < l.length := by omega
    obtain ⟨a, rfl, _, ha⟩ := h k hlt
    by_cases hx : okN (l.getD k 0)
    · have hne : k ≠ j := fun e => HB.out (e ▸ hx)
      have hk' : k + 1 ≤ j := by omega
      clear hne
      obtain ⟨x0, x1⟩ := hx
      generalize l.getD k 0 = x at ha x0 x1
      go_wp2
      go_roundw
      case rel => exact ⟨k + 1, by omega, by go_num, trivial⟩
      case measure => simp [intOf]; omega
    · unfold okN at hx
      generalize l.getD k 0 = x at ha hx
      by_cases x0 : x < 0
      · clear hx
        go_wp2
        go_ret
        exact ⟨rfl, 0, rfl⟩
      · have x1 : 8380417 ≤ x := by omega
        clear hx
        go_wp2
        go_ret
        exact ⟨rfl, 0, rfl⟩

theorem pMay_no (A : Option Addr) (c B : Nat) (l : List Int) (w : World) (h : Has w B A l) (hp : ¬ IsPoly l) :
    Calls Try.prog 24 #[.slice A l.length c] w fun e w' => e = .returned (.bool false) ∧ ∃ n, w' = w.drewN n := by
  by_cases hl : l.length = 256
  · obtain ⟨j, hj, hb⟩ : ∃ j, j < 256 ∧ ¬ okN (l.getD j 0) := by
      apply Classical.byContradiction
      intro hne
      exact hp ⟨hl, fun k hk => Classical.byContradiction fun g => hne ⟨k, hk, g⟩⟩
    exact pMay_bad A c B l w h hl j hj hb
  · exact pMay_short A c l.length w hl
end Go.Proofs.Ytneopnlklhcopaa
