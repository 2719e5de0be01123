/- What every program answers that is one: the contract of awake. -/
import Derived.Test.YtlaejnbkgikfcaaDoorD
namespace Go.Proofs.YtlaejnbkgikfcaaDoor
open Go.RowKit Ring

theorem wf_bounds (a : Int) (h : (Lit.int .i64 a).wf = true) : -9223372036854775808 ≤ a ∧ a ≤ 9223372036854775807 := by
  simp only [Lit.wf, Bool.and_eq_true, decide_eq_true_eq] at h
  exact h

theorem low_as {x n v : Int} (hv : v = low x n) (w : World) (h0 : 1 ≤ n) (h1 : n ≤ 4611686018427387904) :
    Calls Tryd.prog 26 #[.int .i64 x, .int .i64 n] w fun e w' => e = .returned (.int .i64 v) ∧ w = w' := by
  rw [hv]; exact low_any x n w h0 h1

theorem low_bd {x n v : Int} (hv : v = low x n) (h : 1 ≤ n) : 0 ≤ v ∧ v ≤ n - 1 := by
  subst hv
  have l0 : 0 ≤ low x n := Int.emod_nonneg _ (by omega)
  have l1 : low x n < n := Int.emod_lt_of_pos _ (by omega)
  omega

theorem grown_trans {W w w' : World} (h : Grown W w) (k : Grown w w') : Grown W w' :=
  ⟨World.keptBut_trans h.1 k.1, fun a => (k.2.1 a).trans (h.2.1 a), Nat.le_trans h.2.2 k.2.2⟩

theorem squash_from {W w : World} (d x : Int) (hg : Grown W w) :
    Calls Tryd.prog 22 #[.int .i64 d, .int .i64 x] w fun e w' => e = .returned (.int .i64 (rSquash d x)) ∧ Grown W w' :=
  (squash_any d x w).mono fun _ _ ⟨he, hw⟩ => ⟨he, grown_trans hg hw⟩
theorem stretch_from {W w : World} (d x : Int) (hg : Grown W w) :
    Calls Tryd.prog 24 #[.int .i64 d, .int .i64 x] w fun e w' => e = .returned (.int .i64 (rStretch d x)) ∧ Grown W w' :=
  (stretch_any d x w).mono fun _ _ ⟨he, hw⟩ => ⟨he, grown_trans hg hw⟩
theorem refSquash_from {W w : World} (d x : Int) (hg : Grown W w) :
    Calls Tryd.prog 23 #[.int .i64 d, .int .i64 x] w fun e w' => e = .returned (.int .i64 (rSquash d x)) ∧ Grown W w' :=
  (refSquash_any d x w).mono fun _ _ ⟨he, hw⟩ => ⟨he, grown_trans hg hw⟩
theorem refStretch_from {W w : World} (d x : Int) (hg : Grown W w) :
    Calls Tryd.prog 25 #[.int .i64 d, .int .i64 x] w fun e w' => e = .returned (.int .i64 (rStretch d x)) ∧ Grown W w' :=
  (refStretch_any d x w).mono fun _ _ ⟨he, hw⟩ => ⟨he, grown_trans hg hw⟩

set_option maxHeartbeats 400000 in
theorem awake_any (w : World) (TB : Hid (Tab w)) :
    Calls Tryd.prog 9 #[] w fun e w' => e = .returned (.bool true) ∧ Grown w w' := by
  have t1 : (rRoot 1 == 1729) = true := by decide +kernel
  have t2 : (rSquash 1 833 == 1) = true := by decide +kernel
  have t3 : (rStretch 1 1 == 1665) = true := by decide +kernel
  have t4 : (rOf (-1) == 3328) = true := by decide +kernel
  have t5 : (rPow 17 256 == 1) = true := by decide +kernel
  have t6 : (rPow 17 128 == 3328) = true := by decide +kernel
  have hg := Grown.refl w
  go_enter Tryd.func9, Tryd.ntmps9
  go_wp2_with (first
    | (go_at_call 20; refine (root_any _ _ (tab_g TB (by assumption))).mono ?_; rintro e w' ⟨rfl, rfl⟩)
    | (go_at_call 22; refine (squash_from _ _ (by assumption)).mono ?_; rintro e w' ⟨rfl, hg⟩)
    | (go_at_call 24; refine (stretch_from _ _ (by assumption)).mono ?_; rintro e w' ⟨rfl, hg⟩)
    | (go_at_call 10; refine (of_any _ _).mono ?_; rintro e w' ⟨rfl, rfl⟩)
    | (go_at_call 18; refine (pow_any _ _ _ (by omega)).mono ?_; rintro e w' ⟨rfl, rfl⟩))
  go_ret
  exact ⟨rfl, by assumption⟩

theorem awake_from {W w : World} (TB : Hid (Tab W)) (hg : Grown W w) :
    Calls Tryd.prog 9 #[] w fun e w' => e = .returned (.bool true) ∧ Grown W w' :=
  (awake_any w (tab_g TB hg)).mono fun _ _ ⟨he, hw⟩ => ⟨he, grown_trans hg hw⟩

end Go.Proofs.YtlaejnbkgikfcaaDoor
