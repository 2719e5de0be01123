/- Contract: a product is added, pair by pair. -/
import Derived.Test.YtmjcgkddjgplkaaDoorDe
import Derived.Test.YtmjcgkddjgplkaaDoorI
import Derived.Test.YtmjcgkddjgplkaaDoorPolyG
namespace Go.Proofs.YtmjcgkddjgplkaaDoor
open Go.RowKit Slices Go.Proofs.YtmjcgkddjgplkaaDoor.Ring

theorem zeta_root_all : (List.range 128).all (fun k => phi (17 * rRoot k * rRoot k) == zeta k) = true := by decide +kernel
theorem zeta_root {k : Nat} (h : k < 128) : phi (rOf (17 * rRoot k * rRoot k)) = zeta k := by
  have := List.all_eq_true.mp zeta_root_all k (List.mem_range.mpr h)
  rw [phi_of]
  simpa using this
theorem root_half (J k : Nat) (w : World) (hJ : J = 2 * k) (hk : k < 128) (T : Hid (Tab w)) :
    Calls Tryd.prog 40 #[.int .i64 ((J : Int) / 2)] w fun e w' => e = .returned (.int .i64 (rRoot k)) ∧ w = w' := by
  have e : (J : Int) / 2 = (k : Int) := by omega
  rw [e]; exact root_any k w hk T
theorem sq_bd {r : Int} (h0 : 0 ≤ r) (h1 : r ≤ 3328) : 0 ≤ 17 * r ∧ 17 * r ≤ 56576 ∧ 0 ≤ 17 * r * r ∧ 17 * r * r ≤ 188284928 := by
  have h2 := prod_bd r r h0 h1 h0 h1
  rw [Int.mul_assoc]
  omega

theorem upto_two {w wr : World} {N g c k : Nat} {f h : V} (hh : Holds w N g c (MixU f h k) wr) (hk : k + 1 < 256) :
    ∃ l : List Int, wr.ownsRow w.heap.size 3 1 (.slice (some ⟨g, 0, none⟩) N c) N (ints l) ∧ okN (l.getD k 0) ∧ okN (l.getD (k + 1) 0) ∧ phi (l.getD k 0) = f k ∧ phi (l.getD (k + 1) 0) = f (k + 1) ∧
      ∀ x y, okN x → phi x = h k → okN y → phi y = h (k + 1) → Holds w N g c (MixU f h (k + 2)) ((wr.setCell ⟨g, k, none⟩ (.int .i64 x)).setCell ⟨g, k + 1, none⟩ (.int .i64 y)) := by
  obtain ⟨l, hown, hp, hs, hb⟩ := hh
  refine ⟨l, hown, hp.2 k (by omega), hp.2 (k + 1) hk, (hs k (by omega)).trans (mixU_at f h k), (hs (k + 1) hk).trans (by unfold MixU; rw [if_neg (by omega)]), fun x y ox hx oy hy => ?_⟩
  obtain ⟨p1, p2⟩ := mixU_step (by omega) hp hs ox hx
  obtain ⟨p3, p4⟩ := mixU_step hk p1 p2 oy hy
  exact ⟨_, own_set (own_set hown _ _) _ _, p3, p4, (hb.setCell (own_block hown).1 _).setCell (own_block hown).1 _⟩

set_option maxRecDepth 100000 in
set_option maxHeartbeats 4000000 in
theorem addProduct_any (w wr : World) (N g c ca cb : Nat) (F : V) (A A' : Option Addr) (l m : List Int) (hs : Holds w N g c F wr) (hN : N = 256) (h : Has w w.heap.size A l) (h' : Has w w.heap.size A' m) (hp : IsPoly l) (hq : IsPoly m) (T : Hid (Tab w)) :
    Calls Tryd.prog 48 #[.slice (some ⟨g, 0, none⟩) N c, .slice A l.length ca, .slice A' m.length cb] wr fun e w' => e = .returned (.tuple #[]) ∧ Holds w N g c (vAdd F (vTimes (vec l) (vec m))) w' := by
  have n0 : l.length ≤ 256 := by rw [hp.1]; exact Nat.le_refl _
  have n1 : 256 ≤ l.length := by rw [hp.1]; exact Nat.le_refl _
  have k0 : m.length ≤ 256 := by rw [hq.1]; exact Nat.le_refl _
  have k1 : 256 ≤ m.length := by rw [hq.1]; exact Nat.le_refl _
  have HP := Lib.hid hp
  have HQ := Lib.hid hq
  have H := Lib.hid h
  have H' := Lib.hid h'
  have HS : Hid (Holds w N g c (MixU F (vAdd F (vTimes (vec l) (vec m))) 0) wr) := by rw [mixU_start]; exact hs
  have nn0 : N ≤ 256 := by omega
  have nn1 : 256 ≤ N := by omega
  clear h h' hp hq hs hN
  go_enter Tryd.func48, Tryd.ntmps48
  go_wp2
  go_loopw [6] (fun i wj => ∃ k J : Nat, J = 2 * k ∧ k ≤ 128 ∧ i = .int .i64 J ∧ Holds w N g c (MixU F (vAdd F (vTimes (vec l) (vec m))) J) wj) (fun i _ => 256 - (intOf i).toNat)
  case atStart => exact ⟨0, 0, rfl, by omega, rfl, HS.out⟩
  case round =>
    obtain ⟨k, J, hJ, hk, rfl, hh⟩ := hrel
    have HH := Lib.hid hh
    clear hh HS
    by_cases hlt : J < 256
    · have hkk : k < 128 := by omega
      have hT : Tab wr := T.out.next HH.out.bel
      have HT := Lib.hid hT
      obtain ⟨z0, z1⟩ := rRoot_ok k
      obtain ⟨r0, r1, r2, r3⟩ := sq_bd z0 z1
      have u0 := rOf_lo (17 * rRoot k * rRoot k)
      have u1 := rOf_hi (17 * rRoot k * rRoot k)
      have ZR := Lib.hid (zeta_root hkk)
      have hw := H.out.below HH.out.bel
      have hw' := H'.out.below HH.out.bel
      obtain ⟨a, rfl, hab, ha⟩ := hw J (by omega)
      obtain ⟨_, e, _, hb⟩ := hw (J + 1) (by omega)
      injection e with e
      subst e
      obtain ⟨a', rfl, hab', hc⟩ := hw' J (by omega)
      obtain ⟨_, e, _, hd⟩ := hw' (J + 1) (by omega)
      injection e with e
      subst e
      obtain ⟨p0, p1⟩ := HP.out.2 J (by omega)
      obtain ⟨p2, p3⟩ := HP.out.2 (J + 1) (by omega)
      obtain ⟨p4, p5⟩ := HQ.out.2 J (by omega)
      obtain ⟨p6, p7⟩ := HQ.out.2 (J + 1) (by omega)
      have he : vTimes (vec l) (vec m) J = phi (l.getD J 0) * phi (m.getD J 0) + zeta k * (phi (l.getD (J + 1) 0) * phi (m.getD (J + 1) 0)) := by subst hJ; exact vTimes_even _ _ k
      have ho : vTimes (vec l) (vec m) (J + 1) = phi (l.getD J 0) * phi (m.getD (J + 1) 0) + phi (l.getD (J + 1) 0) * phi (m.getD J 0) := by subst hJ; exact vTimes_odd _ _ k
      have HE := Lib.hid he
      have HO := Lib.hid ho
      clear hT hw hw' he ho
      generalize l.getD J 0 = xa at ha p0 p1 HE HO
      generalize l.getD (J + 1) 0 = xb at hb p2 p3 HE HO
      generalize m.getD J 0 = xc at hc p4 p5 HE HO
      generalize m.getD (J + 1) 0 = xd at hd p6 p7 HE HO
      have hb2 : wr.cell? { block := a.block, off := a.off + (J + 1) } = some (.int .i64 xb) := by rw [← add_pos a (by omega)]; exact hb
      have hd2 : wr.cell? { block := a'.block, off := a'.off + (J + 1) } = some (.int .i64 xd) := by rw [← add_pos a' (by omega)]; exact hd
      clear hb hd
      obtain ⟨b0, b1⟩ := prod_bd xa xc p0 p1 p4 p5
      obtain ⟨b2, b3⟩ := prod_bd xb xd p2 p3 p6 p7
      obtain ⟨b4, b5⟩ := prod_bd xa xd p0 p1 p6 p7
      obtain ⟨b6, b7⟩ := prod_bd xb xc p2 p3 p4 p5
      have v0 := rOf_lo (xb * xd)
      have v1 := rOf_hi (xb * xd)
      obtain ⟨b8, b9⟩ := prod_bd (rOf (17 * rRoot k * rRoot k)) (rOf (xb * xd)) u0 u1 v0 v1
      have bJ : decide ((J : Int) < 256) = true := by rw [decide_eq_true_iff]; omega
      have HJ := Lib.hid hJ
      have hJ2 : J + 1 < 256 := by omega
      clear hJ
      go_wp2_with (first
        | (go_at_call 40; refine (root_half J k _ HJ.out hkk HT).mono ?_; rintro e w' ⟨rfl, rfl⟩)
        | (go_at_call 38; refine (of_any _ _).mono ?_; rintro e w' ⟨rfl, rfl⟩))
      generalize hZ : rOf (17 * rRoot k * rRoot k) = z at ZR u0 u1 b8 b9
      clear hZ
      have hi1 : (J : Int) < (l.length : Int) := by omega
      have hi2 : (J : Int) + 1 < (l.length : Int) := by omega
      have hi3 : (J : Int) < (m.length : Int) := by omega
      have hi4 : (J : Int) + 1 < (m.length : Int) := by omega
      have s2 : IntKind.i64.wrap ((J : Int) + 1) = (J : Int) + 1 := IntWalk.i64_in _ (by omega)
      have s4 : ((J : Int) + 1).toNat = J + 1 := by omega
      have s5 : (0 : Int) ≤ (J : Int) := by omega
      have s6 : (0 : Int) ≤ (J : Int) + 1 := by omega
      go_quiet (fail)
      clear hi1 hi2 hi3 hi4 s2 s4 s5 s6 ha hb2 hc hd2
      go_wp2_with fail
      refine wp_region_still_tail 19 (by kernel_rfl) (by kernel_rfl) ?_
      change wpStill _ _ (World.drew _) (fun a' => wpList _ _ _ _ a' (World.drew _)) _ _
      generalize hW : World.drew (wr.drewN nq) = w2
      have H2 : Hid (Holds w N g c (MixU F (vAdd F (vTimes (vec l) (vec m))) J) w2) := by rw [← hW]; exact (HH.out.drewN nq).drewN 1
      clear hW HH HT
      obtain ⟨cur, hown, ⟨x0, x1⟩, ⟨y0, y1⟩, hX, hY, hnx⟩ := upto_two H2.out (k := J) hJ2
      have cX := own_cell hown (k := J) (by omega)
      have fX := hown.frozenAt J
      have cY := own_cell hown (k := J + 1) (by omega)
      have fY := hown.frozenAt (J + 1)
      have hn2 := hnx (rOf (cur.getD J 0 + xa * xc + z * rOf (xb * xd))) (rOf (cur.getD (J + 1) 0 + xa * xd + xb * xc)) (rem_ok _) (by rw [phi_of, phi_add, phi_add, phi_mul, phi_mul, phi_of, phi_mul, hX, ZR.out]; show _ = F J + vTimes (vec l) (vec m) J; rw [HE.out]; grind)
        (rem_ok _) (by rw [phi_of, phi_add, phi_add, phi_mul, phi_mul, hY]; show _ = F (J + 1) + vTimes (vec l) (vec m) (J + 1); rw [HO.out]; grind)
      have HN1 := Lib.hid hn2
      clear hown hnx hX hY hn2 H2
      generalize cur.getD J 0 = X at cX x0 x1 HN1
      generalize cur.getD (J + 1) 0 = Y at cY y0 y1 HN1
      have q1 : IntKind.i64.wrap (xa * xc) = xa * xc := IntWalk.i64_in _ (by omega)
      have q2 : IntKind.i64.wrap (X + xa * xc) = X + xa * xc := IntWalk.i64_in _ (by omega)
      have q3 : IntKind.i64.wrap (xb * xd) = xb * xd := IntWalk.i64_in _ (by omega)
      have q4 : IntKind.i64.wrap (z * rOf (xb * xd)) = z * rOf (xb * xd) := IntWalk.i64_in _ (by omega)
      have q5 : IntKind.i64.wrap (X + xa * xc + z * rOf (xb * xd)) = X + xa * xc + z * rOf (xb * xd) := IntWalk.i64_in _ (by omega)
      have q6 : (J : Int) < (N : Int) := by omega
      have q7 : (0 : Int) ≤ (J : Int) := by omega
      simp only [List.take_succ_cons, List.take_zero, List.drop_succ_cons, List.drop_zero]
      repeat still_step
      still_call (still_eq (of_any _ _))
      repeat still_step
      still_call (still_eq (of_any _ _))
      repeat still_step
      refine wpStill_nil ?_
      clear q1 q2 q3 q4 q5 q6 q7
      go_wp2_with (go_at_call 38; refine (of_any _ _).mono ?_; rintro e w' ⟨rfl, rfl⟩)
      go_roundw
      case rel => exact ⟨k + 1, J + 2, by have := HJ.out; omega, by omega, by go_num, HN1.out⟩
      case measure => simp [intOf]; omega
    · go_wp2
      go_end0
      have e : J = 256 := by omega
      subst e
      exact ⟨rfl, HH.out.same (mixU_end _ _)⟩
end Go.Proofs.YtmjcgkddjgplkaaDoor
