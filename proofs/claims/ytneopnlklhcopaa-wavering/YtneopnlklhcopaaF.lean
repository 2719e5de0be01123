/- Contracts: the document's own sums, differences and products. -/
import Derived.Test.YtneopnlklhcopaaD
import Derived.Test.YtneopnlklhcopaaPolyE
import Derived.Deep.RegionHeld3
namespace Go.Proofs.Ytneopnlklhcopaa
open Go.RowKit Slices Go.Proofs.Ytneopnlklhcopaa.Ring

theorem frozen_of {w wr : World} {N g c : Nat} {v : V} (h : Holds w N g c v wr) (k : Nat) : wr.frozen? ⟨g, k, none⟩ = false := by
  obtain ⟨l, a, _, _, _⟩ := h
  exact a.frozenAt k
theorem cell_of {w wr : World} {N g c : Nat} {v : V} (h : Holds w N g c v wr) {k : Nat} (hk : k < N) : ∃ x, wr.cell? ⟨g, k, none⟩ = some (.int .i64 x) := by
  obtain ⟨l, a, _, _, _⟩ := h
  exact ⟨_, own_cell a hk⟩

set_option maxRecDepth 100000 in
set_option maxHeartbeats 2000000 in
theorem refAdd_yes (A A' : Option Addr) (c c' : Nat) (l m : List Int) (w : World) (h : Has w w.heap.size A l) (h' : Has w w.heap.size A' m) (hp : IsPoly l) (hq : IsPoly m) :
    Calls Try.prog 19 #[.slice A l.length c, .slice A' m.length c'] w (Gives w (toL (vAdd (vec l) (vec m)))) := by
  obtain ⟨i0, hi0, hz0, hz1, hz2⟩ := info_parts Try.info3
  obtain ⟨N, hN⟩ : ∃ N : Nat, N = 256 := ⟨_, rfl⟩
  have t0 : N ≤ 256 := by omega
  have t1 : 256 ≤ N := by omega
  have HN := Lib.hid hN
  clear hN
  have n0 : l.length ≤ 256 := by rw [hp.1]; exact Nat.le_refl _
  have n1 : 256 ≤ l.length := by rw [hp.1]; exact Nat.le_refl _
  have k0 : m.length ≤ 256 := by rw [hq.1]; exact Nat.le_refl _
  have k1 : 256 ≤ m.length := by rw [hq.1]; exact Nat.le_refl _
  have HP := Lib.hid hp
  have HQ := Lib.hid hq
  have H := Lib.hid h
  have H' := Lib.hid h'
  clear h hp hq h'
  go_enter Try.func19, Try.ntmps19
  go_wp2_with (first
    | (go_at_call 25; (first | (with_reducible refine (may_yes _ _ _ l _ H.out HP.out).mono ?_) | (with_reducible refine (may_yes _ _ _ l _ (H.out.drewN _) HP.out).mono ?_) | (with_reducible refine (may_yes _ _ _ m _ (H'.out.drewN _) HQ.out).mono ?_)); rintro e w' ⟨rfl, n, rfl⟩)
    | (at_make; refine wpList_make_full _ rfl _ _ 22 rfl w.heap.size 3 i0 (.int .i64 0) 1 Try.underlying22 hi0 hz0 hz1 _ _ _ _ N rfl rfl (by omega) (by omega) (by rw [hz2]; omega) (by unfold maxLen; omega) (Nat.le_refl _) ?_; intro w1 hown hgrow; rw [made_ints] at hown; have HO := Lib.hid hown; clear hown; have HG := Lib.hid hgrow; clear hgrow))
  have hst : Holds w N w.heap.size N (upto (vAdd (vec l) (vec m)) 0) w1 := by
    have hb : Below w.heap.size w w1 := (below_drewN (Below.refl _ _) _).grown HG.out (Nat.le_refl _) (by simp)
    have e := HN.out
    subst e
    exact ⟨zeroL, HO.out, zero_poly, vec_zero.trans (upto_start _), hb⟩
  have HST := Lib.hid hst
  clear hst HO HG
  go_loopw [6] (fun i wr => ∃ k : Nat, k ≤ 256 ∧ i = .int .i64 k ∧ Holds w N w.heap.size N (upto (vAdd (vec l) (vec m)) k) wr) (fun i _ => 256 - (intOf i).toNat)
  case atStart => exact ⟨0, by omega, rfl, HST.out⟩
  case round =>
    obtain ⟨k, hk, rfl, hr⟩ := hrel
    have HR := Lib.hid hr
    clear hr HST
    by_cases hlt : k < 256
    · have bk : decide ((k : Int) < 256) = true := by rw [decide_eq_true_iff]; omega
      obtain ⟨a, rfl, hab, ha⟩ := (H.out.below HR.out.bel) k (by omega)
      obtain ⟨a', rfl, hab', ha'⟩ := (H'.out.below HR.out.bel) k (by omega)
      obtain ⟨x0, x1⟩ := HP.out.2 k hlt
      obtain ⟨y0, y1⟩ := HQ.out.2 k hlt
      have hF : vAdd (vec l) (vec m) k = vAdd (fun _ => phi (l.getD k 0)) (fun _ => phi (m.getD k 0)) k := rfl
      have HF := Lib.hid hF
      clear hF
      generalize l.getD k 0 = X at ha x0 x1 HF
      generalize m.getD k 0 = Y at ha' y0 y1 HF
      have hx : phi ((X + Y) % 8380417) = vAdd (vec l) (vec m) k := by
        rw [HF.out]
        show _ = vAdd (fun _ => phi X) (fun _ => phi Y) k
        rw [phi_rem, phi_add]; rfl
      have HNX := Lib.hid (upto_next (HR.out.drewN 1) hlt (rem_ok _) hx)
      have hfz := frozen_of HR.out k
      obtain ⟨o, hc⟩ := cell_of HR.out (k := k) (by omega)
      have hi1 : (k : Int) < (l.length : Int) := by omega
      have hi2 : (k : Int) < (m.length : Int) := by omega
      have hi3 : (k : Int) < (N : Int) := by omega
      have hi0' : (0 : Int) ≤ (k : Int) := Int.natCast_nonneg _
      clear hx HF
      go_wp2_with fail
      refine wp_region_still_tail 13 (by kernel_rfl) (by kernel_rfl) ?_
      change wpStill _ _ (World.drew _) (fun a' => wpList _ _ _ _ a' (World.drew _)) _ _
      generalize hW : World.drew wr = w2
      have ca : w2.cell? (a.add k) = some (.int .i64 X) := by rw [← hW]; exact ha
      have cb : w2.cell? (a'.add k) = some (.int .i64 Y) := by rw [← hW]; exact ha'
      have cc : w2.cell? ⟨w.heap.size, k, none⟩ = some (.int .i64 o) := by rw [← hW]; exact hc
      have fz : w2.frozen? ⟨w.heap.size, k, none⟩ = false := by rw [← hW]; exact hfz
      have HNX2 : Hid (Holds w N w.heap.size N (upto (vAdd (vec l) (vec m)) (k + 1)) (w2.setCell ⟨w.heap.size, k, none⟩ (.int .i64 ((X + Y) % 8380417)))) := by rw [← hW]; exact HNX.out
      clear hW ha ha' hc hfz HNX HR
      simp only [List.take_succ_cons, List.take_zero, List.drop_succ_cons, List.drop_zero]
      repeat still_step
      refine wpStill_nil ?_
      go_wp2
      go_roundw
      case rel => exact ⟨k + 1, by omega, by go_num, HNX2.out⟩
      case measure => simp [intOf]; omega
    · go_wp2
      go_ret
      have e : k = 256 := by omega
      subst e
      exact (HR.out.same (upto_end _)).gives

set_option maxRecDepth 100000 in
set_option maxHeartbeats 2000000 in
theorem refSub_yes (A A' : Option Addr) (c c' : Nat) (l m : List Int) (w : World) (h : Has w w.heap.size A l) (h' : Has w w.heap.size A' m) (hp : IsPoly l) (hq : IsPoly m) :
    Calls Try.prog 20 #[.slice A l.length c, .slice A' m.length c'] w (Gives w (toL (vSub (vec l) (vec m)))) := by
  obtain ⟨i0, hi0, hz0, hz1, hz2⟩ := info_parts Try.info3
  obtain ⟨N, hN⟩ : ∃ N : Nat, N = 256 := ⟨_, rfl⟩
  have t0 : N ≤ 256 := by omega
  have t1 : 256 ≤ N := by omega
  have HN := Lib.hid hN
  clear hN
  have n0 : l.length ≤ 256 := by rw [hp.1]; exact Nat.le_refl _
  have n1 : 256 ≤ l.length := by rw [hp.1]; exact Nat.le_refl _
  have k0 : m.length ≤ 256 := by rw [hq.1]; exact Nat.le_refl _
  have k1 : 256 ≤ m.length := by rw [hq.1]; exact Nat.le_refl _
  have HP := Lib.hid hp
  have HQ := Lib.hid hq
  have H := Lib.hid h
  have H' := Lib.hid h'
  clear h hp hq h'
  go_enter Try.func20, Try.ntmps20
  go_wp2_with (first
    | (go_at_call 25; (first | (with_reducible refine (may_yes _ _ _ l _ H.out HP.out).mono ?_) | (with_reducible refine (may_yes _ _ _ l _ (H.out.drewN _) HP.out).mono ?_) | (with_reducible refine (may_yes _ _ _ m _ (H'.out.drewN _) HQ.out).mono ?_)); rintro e w' ⟨rfl, n, rfl⟩)
    | (at_make; refine wpList_make_full _ rfl _ _ 22 rfl w.heap.size 3 i0 (.int .i64 0) 1 Try.underlying22 hi0 hz0 hz1 _ _ _ _ N rfl rfl (by omega) (by omega) (by rw [hz2]; omega) (by unfold maxLen; omega) (Nat.le_refl _) ?_; intro w1 hown hgrow; rw [made_ints] at hown; have HO := Lib.hid hown; clear hown; have HG := Lib.hid hgrow; clear hgrow))
  have hst : Holds w N w.heap.size N (upto (vSub (vec l) (vec m)) 0) w1 := by
    have hb : Below w.heap.size w w1 := (below_drewN (Below.refl _ _) _).grown HG.out (Nat.le_refl _) (by simp)
    have e := HN.out
    subst e
    exact ⟨zeroL, HO.out, zero_poly, vec_zero.trans (upto_start _), hb⟩
  have HST := Lib.hid hst
  clear hst HO HG
  go_loopw [6] (fun i wr => ∃ k : Nat, k ≤ 256 ∧ i = .int .i64 k ∧ Holds w N w.heap.size N (upto (vSub (vec l) (vec m)) k) wr) (fun i _ => 256 - (intOf i).toNat)
  case atStart => exact ⟨0, by omega, rfl, HST.out⟩
  case round =>
    obtain ⟨k, hk, rfl, hr⟩ := hrel
    have HR := Lib.hid hr
    clear hr HST
    by_cases hlt : k < 256
    · have bk : decide ((k : Int) < 256) = true := by rw [decide_eq_true_iff]; omega
      obtain ⟨a, rfl, hab, ha⟩ := (H.out.below HR.out.bel) k (by omega)
      obtain ⟨a', rfl, hab', ha'⟩ := (H'.out.below HR.out.bel) k (by omega)
      obtain ⟨x0, x1⟩ := HP.out.2 k hlt
      obtain ⟨y0, y1⟩ := HQ.out.2 k hlt
      have hF : vSub (vec l) (vec m) k = vSub (fun _ => phi (l.getD k 0)) (fun _ => phi (m.getD k 0)) k := rfl
      have HF := Lib.hid hF
      clear hF
      generalize l.getD k 0 = X at ha x0 x1 HF
      generalize m.getD k 0 = Y at ha' y0 y1 HF
      have hx : phi ((X - Y) % 8380417) = vSub (vec l) (vec m) k := by
        rw [HF.out]
        show _ = vSub (fun _ => phi X) (fun _ => phi Y) k
        rw [phi_rem, phi_sub]; rfl
      have HNX := Lib.hid (upto_next (HR.out.drewN 1) hlt (rem_ok _) hx)
      have hfz := frozen_of HR.out k
      obtain ⟨o, hc⟩ := cell_of HR.out (k := k) (by omega)
      have hi1 : (k : Int) < (l.length : Int) := by omega
      have hi2 : (k : Int) < (m.length : Int) := by omega
      have hi3 : (k : Int) < (N : Int) := by omega
      have hi0' : (0 : Int) ≤ (k : Int) := Int.natCast_nonneg _
      clear hx HF
      go_wp2_with fail
      refine wp_region_still_tail 14 (by kernel_rfl) (by kernel_rfl) ?_
      change wpStill _ _ (World.drew _) (fun a' => wpList _ _ _ _ a' (World.drew _)) _ _
      generalize hW : World.drew wr = w2
      have ca : w2.cell? (a.add k) = some (.int .i64 X) := by rw [← hW]; exact ha
      have cb : w2.cell? (a'.add k) = some (.int .i64 Y) := by rw [← hW]; exact ha'
      have cc : w2.cell? ⟨w.heap.size, k, none⟩ = some (.int .i64 o) := by rw [← hW]; exact hc
      have fz : w2.frozen? ⟨w.heap.size, k, none⟩ = false := by rw [← hW]; exact hfz
      have HNX2 : Hid (Holds w N w.heap.size N (upto (vSub (vec l) (vec m)) (k + 1)) (w2.setCell ⟨w.heap.size, k, none⟩ (.int .i64 ((X - Y) % 8380417)))) := by rw [← hW]; exact HNX.out
      clear hW ha ha' hc hfz HNX HR
      simp only [List.take_succ_cons, List.take_zero, List.drop_succ_cons, List.drop_zero]
      repeat still_step
      refine wpStill_nil ?_
      go_wp2
      go_roundw
      case rel => exact ⟨k + 1, by omega, by go_num, HNX2.out⟩
      case measure => simp [intOf]; omega
    · go_wp2
      go_ret
      have e : k = 256 := by omega
      subst e
      exact (HR.out.same (upto_end _)).gives

set_option maxRecDepth 100000 in
set_option maxHeartbeats 2000000 in
theorem refTimes_yes (A A' : Option Addr) (c c' : Nat) (l m : List Int) (w : World) (h : Has w w.heap.size A l) (h' : Has w w.heap.size A' m) (hp : IsPoly l) (hq : IsPoly m) :
    Calls Try.prog 23 #[.slice A l.length c, .slice A' m.length c'] w (Gives w (toL (vTimes (vec l) (vec m)))) := by
  obtain ⟨i0, hi0, hz0, hz1, hz2⟩ := info_parts Try.info3
  obtain ⟨N, hN⟩ : ∃ N : Nat, N = 256 := ⟨_, rfl⟩
  have t0 : N ≤ 256 := by omega
  have t1 : 256 ≤ N := by omega
  have HN := Lib.hid hN
  clear hN
  have n0 : l.length ≤ 256 := by rw [hp.1]; exact Nat.le_refl _
  have n1 : 256 ≤ l.length := by rw [hp.1]; exact Nat.le_refl _
  have k0 : m.length ≤ 256 := by rw [hq.1]; exact Nat.le_refl _
  have k1 : 256 ≤ m.length := by rw [hq.1]; exact Nat.le_refl _
  have HP := Lib.hid hp
  have HQ := Lib.hid hq
  have H := Lib.hid h
  have H' := Lib.hid h'
  clear h hp hq h'
  go_enter Try.func23, Try.ntmps23
  go_wp2_with (first
    | (go_at_call 25; (first | (with_reducible refine (may_yes _ _ _ l _ H.out HP.out).mono ?_) | (with_reducible refine (may_yes _ _ _ l _ (H.out.drewN _) HP.out).mono ?_) | (with_reducible refine (may_yes _ _ _ m _ (H'.out.drewN _) HQ.out).mono ?_)); rintro e w' ⟨rfl, n, rfl⟩)
    | (at_make; refine wpList_make_full _ rfl _ _ 22 rfl w.heap.size 3 i0 (.int .i64 0) 1 Try.underlying22 hi0 hz0 hz1 _ _ _ _ N rfl rfl (by omega) (by omega) (by rw [hz2]; omega) (by unfold maxLen; omega) (Nat.le_refl _) ?_; intro w1 hown hgrow; rw [made_ints] at hown; have HO := Lib.hid hown; clear hown; have HG := Lib.hid hgrow; clear hgrow))
  have hst : Holds w N w.heap.size N (upto (vTimes (vec l) (vec m)) 0) w1 := by
    have hb : Below w.heap.size w w1 := (below_drewN (Below.refl _ _) _).grown HG.out (Nat.le_refl _) (by simp)
    have e := HN.out
    subst e
    exact ⟨zeroL, HO.out, zero_poly, vec_zero.trans (upto_start _), hb⟩
  have HST := Lib.hid hst
  clear hst HO HG
  go_loopw [6] (fun i wr => ∃ k : Nat, k ≤ 256 ∧ i = .int .i64 k ∧ Holds w N w.heap.size N (upto (vTimes (vec l) (vec m)) k) wr) (fun i _ => 256 - (intOf i).toNat)
  case atStart => exact ⟨0, by omega, rfl, HST.out⟩
  case round =>
    obtain ⟨k, hk, rfl, hr⟩ := hrel
    have HR := Lib.hid hr
    clear hr HST
    by_cases hlt : k < 256
    · have bk : decide ((k : Int) < 256) = true := by rw [decide_eq_true_iff]; omega
      obtain ⟨a, rfl, hab, ha⟩ := (H.out.below HR.out.bel) k (by omega)
      obtain ⟨a', rfl, hab', ha'⟩ := (H'.out.below HR.out.bel) k (by omega)
      obtain ⟨x0, x1⟩ := HP.out.2 k hlt
      obtain ⟨y0, y1⟩ := HQ.out.2 k hlt
      have hF : vTimes (vec l) (vec m) k = vTimes (fun _ => phi (l.getD k 0)) (fun _ => phi (m.getD k 0)) k := rfl
      have HF := Lib.hid hF
      clear hF
      generalize l.getD k 0 = X at ha x0 x1 HF
      generalize m.getD k 0 = Y at ha' y0 y1 HF
      obtain ⟨q0, q1⟩ := prod_bd X Y x0 x1 y0 y1
      have hx : phi (X * Y % 8380417) = vTimes (vec l) (vec m) k := by
        rw [HF.out]
        show _ = vTimes (fun _ => phi X) (fun _ => phi Y) k
        rw [phi_rem, phi_mul]; rfl
      have HNX := Lib.hid (upto_next (HR.out.drewN 1) hlt (rem_ok _) hx)
      have hfz := frozen_of HR.out k
      obtain ⟨o, hc⟩ := cell_of HR.out (k := k) (by omega)
      have hi1 : (k : Int) < (l.length : Int) := by omega
      have hi2 : (k : Int) < (m.length : Int) := by omega
      have hi3 : (k : Int) < (N : Int) := by omega
      have hi0' : (0 : Int) ≤ (k : Int) := Int.natCast_nonneg _
      clear hx HF
      go_wp2_with fail
      refine wp_region_still_tail 13 (by kernel_rfl) (by kernel_rfl) ?_
      change wpStill _ _ (World.drew _) (fun a' => wpList _ _ _ _ a' (World.drew _)) _ _
      generalize hW : World.drew wr = w2
      have ca : w2.cell? (a.add k) = some (.int .i64 X) := by rw [← hW]; exact ha
      have cb : w2.cell? (a'.add k) = some (.int .i64 Y) := by rw [← hW]; exact ha'
      have cc : w2.cell? ⟨w.heap.size, k, none⟩ = some (.int .i64 o) := by rw [← hW]; exact hc
      have fz : w2.frozen? ⟨w.heap.size, k, none⟩ = false := by rw [← hW]; exact hfz
      have HNX2 : Hid (Holds w N w.heap.size N (upto (vTimes (vec l) (vec m)) (k + 1)) (w2.setCell ⟨w.heap.size, k, none⟩ (.int .i64 (X * Y % 8380417)))) := by rw [← hW]; exact HNX.out
      clear hW ha ha' hc hfz HNX HR
      simp only [List.take_succ_cons, List.take_zero, List.drop_succ_cons, List.drop_zero]
      repeat still_step
      refine wpStill_nil ?_
      go_wp2
      go_roundw
      case rel => exact ⟨k + 1, by omega, by go_num, HNX2.out⟩
      case measure => simp [intOf]; omega
    · go_wp2
      go_ret
      have e : k = 256 := by omega
      subst e
      exact (HR.out.same (upto_end _)).gives
end Go.Proofs.Ytneopnlklhcopaa
