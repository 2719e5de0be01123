/- Contracts: the program's sums and differences, and a product that is added. -/
import Derived.Test.YtneopnlklhcopaaPe
namespace Go.Proofs.Ytneopnlklhcopaa
open Go.RowKit Slices Go.Proofs.Ytneopnlklhcopaa.Ring

/-- the first k numbers are made anew -/
def MixU (f h : V) (k : Nat) : V := fun p => if p < k then h p else f p
theorem mixU_start (f h : V) : MixU f h 0 = f := by funext p; unfold MixU; rw [if_neg (by omega)]
theorem mixU_end (f h : V) : Same (MixU f h 256) h := fun p hp => by unfold MixU; rw [if_pos hp]
theorem mixU_at (f h : V) (k : Nat) : MixU f h k k = f k := by unfold MixU; rw [if_neg (by omega)]
theorem mixU_step {f h : V} {k : Nat} {l : List Int} (hk : k < 256) (hp : IsPoly l) (hs : Same (vec l) (MixU f h k)) {x : Int} (ox : okN x) (hx : phi x = h k) : IsPoly (l.set k x) ∧ Same (vec (l.set k x)) (MixU f h (k + 1)) := by
  refine ⟨set_poly hp k ox, fun p hp' => ?_⟩
  rw [vec_set (by rw [hp.1]; exact hk)]
  by_cases e : p = k
  · subst e
    rw [if_pos rfl, hx]; unfold MixU; rw [if_pos (by omega)]
  · rw [if_neg e, hs p hp']
    unfold MixU
    by_cases e' : p < k
    · rw [if_pos e', if_pos (by omega)]
    · rw [if_neg e', if_neg (by omega)]
theorem mixU_next {w wr : World} {N g c k : Nat} {f h : V} (hh : Holds w N g c (MixU f h k) wr) (hk : k < 256) :
    ∃ l : List Int, wr.ownsRow w.heap.size 3 1 (.slice (some ⟨g, 0, none⟩) N c) N (ints l) ∧ okN (l.getD k 0) ∧ phi (l.getD k 0) = f k ∧ ∀ x, okN x → phi x = h k → Holds w N g c (MixU f h (k + 1)) (wr.setCell ⟨g, k, none⟩ (.int .i64 x)) := by
  obtain ⟨l, hown, hp, hs, hb⟩ := hh
  refine ⟨l, hown, hp.2 k hk, (hs k hk).trans (mixU_at f h k), fun x ox hx => ?_⟩
  obtain ⟨p1, p2⟩ := mixU_step hk hp hs ox hx
  exact ⟨_, own_set hown _ _, p1, p2, hb.setCell (own_block hown).1 _⟩

set_option maxRecDepth 100000 in
set_option maxHeartbeats 2000000 in
theorem pAdd_yes (A A' : Option Addr) (c c' : Nat) (l m : List Int) (w : World) (h : Has w w.heap.size A l) (h' : Has w w.heap.size A' m) (hp : IsPoly l) (hq : IsPoly m) :
    Calls Try.prog 13 #[.slice A l.length c, .slice A' m.length c'] w (Gives w (toL (vAdd (vec l) (vec m)))) := by
  have n0 : l.length ≤ 256 := by rw [hp.1]; exact Nat.le_refl _
  have n1 : 256 ≤ l.length := by rw [hp.1]; exact Nat.le_refl _
  have k0 : m.length ≤ 256 := by rw [hq.1]; exact Nat.le_refl _
  have k1 : 256 ≤ m.length := by rw [hq.1]; exact Nat.le_refl _
  have HP := Lib.hid hp
  have HQ := Lib.hid hq
  obtain ⟨a, rfl, hb, _⟩ := h.addr (by omega)
  have H := Lib.hid h
  have H' := Lib.hid h'
  clear h h' hp hq
  go_enter Try.func13, Try.ntmps13
  go_wp2_with (first
    | (go_at_call 24; (first | (with_reducible refine (pMay_yes _ _ _ l _ H.out HP.out).mono ?_) | (with_reducible refine (pMay_yes _ _ _ m _ (H'.out.drewN _) HQ.out).mono ?_)); rintro e w' ⟨rfl, n, rfl⟩)
    | (go_at_call 40; refine (clone_any a c l _ (H.out.drewN _) (by omega) (by omega)).mono ?_; rintro e w1 ⟨g, c1, rfl, ho, hb1⟩; have HO := Lib.hid ho; have HB1 := Lib.hid hb1; clear ho hb1))
  have hs : Holds w l.length g c1 (MixU (vec l) (vAdd (vec l) (vec m)) 0) w1 := by
    rw [mixU_start]; exact ⟨l, HO.out, HP.out, Same.refl _, (below_drewN (Below.refl _ _) _).trans HB1.out⟩
  have HS := Lib.hid hs
  clear hs HO HB1
  generalize l.length = M at n0 n1 HS
  go_loopw [20] (fun i wj => ∃ k : Nat, k ≤ m.length ∧ i = .int .i64 k ∧ Holds w M g c1 (MixU (vec l) (vAdd (vec l) (vec m)) k) wj) (fun i _ => m.length - (intOf i).toNat)
  case atStart => exact ⟨0, by omega, rfl, HS.out⟩
  case round =>
    obtain ⟨k, hk, rfl, hh⟩ := hrel
    have HH := Lib.hid hh
    clear hh HS
    by_cases hlt : k < m.length
    · obtain ⟨cur, hown, hok, hX, hnx⟩ := mixU_next HH.out (k := k) (by omega)
      obtain ⟨a', rfl, hab, ha⟩ := (H'.out.below HH.out.bel) k hlt
      obtain ⟨y0, y1⟩ := HQ.out.2 k (by omega)
      have cX := own_cell hown (k := k) (by omega)
      have fX := hown.frozenAt k
      obtain ⟨x0, x1⟩ := hok
      have hY : phi (m.getD k 0) = vec m k := rfl
      have hn2 := hnx (rOf (cur.getD k 0 + m.getD k 0)) (rem_ok _) (by rw [phi_of, phi_add, hX, hY]; rfl)
      have HNX := Lib.hid hn2
      clear hown hnx hX hY hn2
      generalize cur.getD k 0 = X at cX x0 x1 HNX
      generalize m.getD k 0 = Y at ha y0 y1 HNX
      go_wp2_with (go_at_call 37; refine (of_any _ _).mono ?_; rintro e w' ⟨rfl, rfl⟩)
      go_roundw
      case rel => exact ⟨k + 1, by omega, by go_num, HNX.out⟩
      case measure => simp [intOf]; omega
    · go_wp2
      go_ret
      have e : k = 256 := by omega
      subst e
      exact (HH.out.same (mixU_end _ _)).gives

set_option maxRecDepth 100000 in
set_option maxHeartbeats 400000 in
theorem pAdd_no (A A' : Option Addr) (c c' : Nat) (l m : List Int) (w : World) (h : Has w w.heap.size A l) (h' : Has w w.heap.size A' m) (hp : ¬ (IsPoly l ∧ IsPoly m)) :
    Calls Try.prog 13 #[.slice A l.length c, .slice A' m.length c'] w fun e w' => e = .returned (.slice none 0 0) ∧ ∃ n, w' = w.drewN n := by
  have H := Lib.hid h
  have H' := Lib.hid h'
  clear h h'
  by_cases hl : IsPoly l
  · have hm : ¬ IsPoly m := fun g => hp ⟨hl, g⟩
    have HP := Lib.hid hl
    have HQ := Lib.hid hm
    clear hp hl hm
    go_enter Try.func13, Try.ntmps13
    go_wp2_with (go_at_call 24; (first | (with_reducible refine (pMay_yes _ _ _ l _ H.out HP.out).mono ?_) | (with_reducible refine (pMay_no _ _ _ m _ (H'.out.drewN _) HQ.out).mono ?_)); rintro e w' ⟨rfl, n, rfl⟩)
    go_ret
    exact ⟨rfl, _, rfl⟩
  · have HP := Lib.hid hl
    clear hp hl
    go_enter Try.func13, Try.ntmps13
    go_wp2_with (go_at_call 24; refine (pMay_no _ _ _ l _ H.out HP.out).mono ?_; rintro e w' ⟨rfl, n, rfl⟩)
    go_ret
    exact ⟨rfl, _, rfl⟩

set_option maxRecDepth 100000 in
set_option maxHeartbeats 2000000 in
theorem pSub_yes (A A' : Option Addr) (c c' : Nat) (l m : List Int) (w : World) (h : Has w w.heap.size A l) (h' : Has w w.heap.size A' m) (hp : IsPoly l) (hq : IsPoly m) :
    Calls Try.prog 14 #[.slice A l.length c, .slice A' m.length c'] w (Gives w (toL (vSub (vec l) (vec m)))) := by
  have n0 : l.length ≤ 256 := by rw [hp.1]; exact Nat.le_refl _
  have n1 : 256 ≤ l.length := by rw [hp.1]; exact Nat.le_refl _
  have k0 : m.length ≤ 256 := by rw [hq.1]; exact Nat.le_refl _
  have k1 : 256 ≤ m.length := by rw [hq.1]; exact Nat.le_refl _
  have HP := Lib.hid hp
  have HQ := Lib.hid hq
  obtain ⟨a, rfl, hb, _⟩ := h.addr (by omega)
  have H := Lib.hid h
  have H' := Lib.hid h'
  clear h h' hp hq
  go_enter Try.func14, Try.ntmps14
  go_wp2_with (first
    | (go_at_call 24; (first | (with_reducible refine (pMay_yes _ _ _ l _ H.out HP.out).mono ?_) | (with_reducible refine (pMay_yes _ _ _ m _ (H'.out.drewN _) HQ.out).mono ?_)); rintro e w' ⟨rfl, n, rfl⟩)
    | (go_at_call 40; refine (clone_any a c l _ (H.out.drewN _) (by omega) (by omega)).mono ?_; rintro e w1 ⟨g, c1, rfl, ho, hb1⟩; have HO := Lib.hid ho; have HB1 := Lib.hid hb1; clear ho hb1))
  have hs : Holds w l.length g c1 (MixU (vec l) (vSub (vec l) (vec m)) 0) w1 := by
    rw [mixU_start]; exact ⟨l, HO.out, HP.out, Same.refl _, (below_drewN (Below.refl _ _) _).trans HB1.out⟩
  have HS := Lib.hid hs
  clear hs HO HB1
  generalize l.length = M at n0 n1 HS
  go_loopw [20] (fun i wj => ∃ k : Nat, k ≤ m.length ∧ i = .int .i64 k ∧ Holds w M g c1 (MixU (vec l) (vSub (vec l) (vec m)) k) wj) (fun i _ => m.length - (intOf i).toNat)
  case atStart => exact ⟨0, by omega, rfl, HS.out⟩
  case round =>
    obtain ⟨k, hk, rfl, hh⟩ := hrel
    have HH := Lib.hid hh
    clear hh HS
    by_cases hlt : k < m.length
    · obtain ⟨cur, hown, hok, hX, hnx⟩ := mixU_next HH.out (k := k) (by omega)
      obtain ⟨a', rfl, hab, ha⟩ := (H'.out.below HH.out.bel) k hlt
      obtain ⟨y0, y1⟩ := HQ.out.2 k (by omega)
      have cX := own_cell hown (k := k) (by omega)
      have fX := hown.frozenAt k
      obtain ⟨x0, x1⟩ := hok
      have hY : phi (m.getD k 0) = vec m k := rfl
      have hn2 := hnx (rOf (cur.getD k 0 - m.getD k 0)) (rem_ok _) (by rw [phi_of, phi_sub, hX, hY]; rfl)
      have HNX := Lib.hid hn2
      clear hown hnx hX hY hn2
      generalize cur.getD k 0 = X at cX x0 x1 HNX
      generalize m.getD k 0 = Y at ha y0 y1 HNX
      go_wp2_with (go_at_call 37; refine (of_any _ _).mono ?_; rintro e w' ⟨rfl, rfl⟩)
      go_roundw
      case rel => exact ⟨k + 1, by omega, by go_num, HNX.out⟩
      case measure => simp [intOf]; omega
    · go_wp2
      go_ret
      have e : k = 256 := by omega
      subst e
      exact (HH.out.same (mixU_end _ _)).gives

set_option maxRecDepth 100000 in
set_option maxHeartbeats 400000 in
theorem pSub_no (A A' : Option Addr) (c c' : Nat) (l m : List Int) (w : World) (h : Has w w.heap.size A l) (h' : Has w w.heap.size A' m) (hp : ¬ (IsPoly l ∧ IsPoly m)) :
    Calls Try.prog 14 #[.slice A l.length c, .slice A' m.length c'] w fun e w' => e = .returned (.slice none 0 0) ∧ ∃ n, w' = w.drewN n := by
  have H := Lib.hid h
  have H' := Lib.hid h'
  clear h h'
  by_cases hl : IsPoly l
  · have hm : ¬ IsPoly m := fun g => hp ⟨hl, g⟩
    have HP := Lib.hid hl
    have HQ := Lib.hid hm
    clear hp hl hm
    go_enter Try.func14, Try.ntmps14
    go_wp2_with (go_at_call 24; (first | (with_reducible refine (pMay_yes _ _ _ l _ H.out HP.out).mono ?_) | (with_reducible refine (pMay_no _ _ _ m _ (H'.out.drewN _) HQ.out).mono ?_)); rintro e w' ⟨rfl, n, rfl⟩)
    go_ret
    exact ⟨rfl, _, rfl⟩
  · have HP := Lib.hid hl
    clear hp hl
    go_enter Try.func14, Try.ntmps14
    go_wp2_with (go_at_call 24; refine (pMay_no _ _ _ l _ H.out HP.out).mono ?_; rintro e w' ⟨rfl, n, rfl⟩)
    go_ret
    exact ⟨rfl, _, rfl⟩

set_option maxRecDepth 100000 in
set_option maxHeartbeats 400000 in
theorem pOver_no (A : Option Addr) (c : Nat) (l : List Int) (w : World) (h : Has w w.heap.size A l) (hp : ¬ IsPoly l) :
    Calls Try.prog 15 #[.slice A l.length c] w fun e w' => e = .returned (.slice none 0 0) ∧ ∃ n, w' = w.drewN n := by
  have H := Lib.hid h
  have HP := Lib.hid hp
  clear h hp
  go_enter Try.func15, Try.ntmps15
  go_wp2_with (go_at_call 24; refine (pMay_no _ _ _ l _ H.out HP.out).mono ?_; rintro e w' ⟨rfl, n, rfl⟩)
  go_ret
  exact ⟨rfl, _, rfl⟩

set_option maxRecDepth 100000 in
set_option maxHeartbeats 400000 in
theorem pBack_no (A : Option Addr) (c : Nat) (l : List Int) (w : World) (h : Has w w.heap.size A l) (hp : ¬ IsPoly l) :
    Calls Try.prog 16 #[.slice A l.length c] w fun e w' => e = .returned (.slice none 0 0) ∧ ∃ n, w' = w.drewN n := by
  have H := Lib.hid h
  have HP := Lib.hid hp
  clear h hp
  go_enter Try.func16, Try.ntmps16
  go_wp2_with (go_at_call 24; refine (pMay_no _ _ _ l _ H.out HP.out).mono ?_; rintro e w' ⟨rfl, n, rfl⟩)
  go_ret
  exact ⟨rfl, _, rfl⟩

set_option maxRecDepth 100000 in
set_option maxHeartbeats 4000000 in
theorem addProduct_any (w wr : World) (N g c ca cb : Nat) (F : V) (A A' : Option Addr) (l m : List Int) (hs : Holds w N g c F wr) (hN : N = 256) (h : Has w w.heap.size A l) (h' : Has w w.heap.size A' m) (hp : IsPoly l) (hq : IsPoly m) :
    Calls Try.prog 50 #[.slice (some ⟨g, 0, none⟩) N c, .slice A l.length ca, .slice A' m.length cb] wr fun e w' => e = .returned (.tuple #[]) ∧ Holds w N g c (vAdd F (vTimes (vec l) (vec m))) w' := by
  have n0 : l.length ≤ 256 := by rw [hp.1]; exact Nat.le_refl _
  have n1 : 256 ≤ l.length := by rw [hp.1]; exact Nat.le_refl _
  have k0 : m.length ≤ 256 := by rw [hq.1]; exact Nat.le_refl _
  have k1 : 256 ≤ m.length := by rw [hq.1]; exact Nat.le_refl _
  have HP := Lib.hid hp
  have HQ := Lib.hid hq
  have H := Lib.hid h
  have H' := Lib.hid h'
  have HS : Hid (Holds w N g c (MixU F (vAdd F (vTimes (vec l) (vec m))) 0) wr) := by rw [mixU_start]; exact hs
  have nn0 : N ≤ 256 := by omega
  have nn1 : 256 ≤ N := by omega
  clear h h' hp hq hs hN
  go_enter Try.func50, Try.ntmps50
  go_wp2
  go_loopw [10] (fun i wj => ∃ k : Nat, k ≤ l.length ∧ i = .int .i64 k ∧ Holds w N g c (MixU F (vAdd F (vTimes (vec l) (vec m))) k) wj) (fun i _ => l.length - (intOf i).toNat)
  case atStart => exact ⟨0, by omega, rfl, HS.out⟩
  case round =>
    rename World => wj
    obtain ⟨k, hk, rfl, hh⟩ := hrel
    have HH := Lib.hid hh
    clear hh HS
    by_cases hlt : k < l.length
    · obtain ⟨a, rfl, hab, ha⟩ := (H.out.below HH.out.bel) k hlt
      obtain ⟨a', rfl, hab', hc⟩ := (H'.out.below HH.out.bel) k (by omega)
      obtain ⟨p0, p1⟩ := HP.out.2 k (by omega)
      obtain ⟨p4, p5⟩ := HQ.out.2 k (by omega)
      have HE : Hid (vTimes (vec l) (vec m) k = phi (l.getD k 0) * phi (m.getD k 0)) := rfl
      generalize l.getD k 0 = xa at ha p0 p1 HE
      generalize m.getD k 0 = xc at hc p4 p5 HE
      obtain ⟨b0, b1⟩ := prod_bd xa xc p0 p1 p4 p5
      go_wp2
      refine wp_region_still_tail 15 (by kernel_rfl) (by kernel_rfl) ?_
      change wpStill _ _ (World.drew _) (fun a' => wpList _ _ _ _ a' (World.drew _)) _ _
      have hc2 : (World.drew wj).cell? (a'.add k) = some (.int .i64 xc) := hc
      generalize hW : World.drew wj = w2 at hc2
      have H2 : Hid (Holds w N g c (MixU F (vAdd F (vTimes (vec l) (vec m))) k) w2) := by rw [← hW]; exact HH.out.drewN 1
      clear hW HH ha hc
      obtain ⟨cur, hown, ⟨x0, x1⟩, hX, hnx⟩ := mixU_next H2.out (k := k) (by omega)
      have cX := own_cell hown (k := k) (by omega)
      have fX := hown.frozenAt k
      have hn2 := hnx (rOf (cur.getD k 0 + xa * xc)) (rem_ok _) (by rw [phi_of, phi_add, phi_mul, hX, ← HE.out]; rfl)
      have HN1 := Lib.hid hn2
      clear hown hnx hX hn2 H2
      generalize cur.getD k 0 = X at cX x0 x1 HN1
      have q1 : IntKind.i64.wrap (xa * xc) = xa * xc := IntWalk.i64_in _ (by omega)
      have q2 : IntKind.i64.wrap (X + xa * xc) = X + xa * xc := IntWalk.i64_in _ (by omega)
      have q6 : (k : Int) < (N : Int) := by omega
      have q7 : (0 : Int) ≤ (k : Int) := by omega
      have q8 : (k : Int) < (m.length : Int) := by omega
      simp only [List.take_succ_cons, List.take_zero, List.drop_succ_cons, List.drop_zero]
      repeat still_step
      still_call (still_eq (of_any _ _))
      repeat still_step
      refine wpStill_nil ?_
      clear q1 q2 q6 q7 q8
      go_wp2
      go_roundw
      case rel => exact ⟨k + 1, by omega, by go_num, HN1.out⟩
      case measure => simp [intOf]; omega
    · go_wp2
      go_end0
      have e : k = 256 := by omega
      subst e
      exact ⟨rfl, HH.out.same (mixU_end _ _)⟩
end Go.Proofs.Ytneopnlklhcopaa
