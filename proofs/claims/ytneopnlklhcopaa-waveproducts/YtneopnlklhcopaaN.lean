/- Contract: what every program answers that is one. -/
import Derived.Test.YtneopnlklhcopaaP0
namespace Go.Proofs.Ytneopnlklhcopaa
open Go.RowKit Slices Go.Proofs.Ytneopnlklhcopaa.Ring

theorem over_unit : (toL (vOver (vec (unitL 256 0)))).getD 0 0 = 1 ∧ (toL (vOver (vec (unitL 256 0)))).getD 255 0 = 1 := by
  have h := (vOver_same (vec_unit 0 (by omega))).trans over_one
  rw [toL_at _ (by omega), toL_at _ (by omega), h 0 (by omega), h 255 (by omega)]
  exact ⟨rfl, rfl⟩
theorem one_le {e1 : Ent} (h1 : e1.l.length ≤ 300) : ∀ i (h : i < [e1].length), [e1][i].l.length ≤ 300 := by
  intro i h
  have : i = 0 := by simp at h; omega
  subst this
  exact h1
theorem nil_le : ∀ i (h : i < ([] : List Ent).length), ([] : List Ent)[i].l.length ≤ 300 := fun i h => by cases h
/-- how far one poly is from 0, at the call -/
theorem pNorm_one (A : Option Addr) (c n : Nat) (l : List Int) (w : World) (hn : l.length = n) (h : Has w w.heap.size A l) (hl : l.length ≤ 300) :
    Calls Try.prog 28 #[.slice (some ⟨w.heap.size, 0, none⟩) 1 1] (w.alloc (.cells #[.slice A n c] 22)) fun e w' => e = .returned (.int .i64 (normL [l])) ∧ Below w.heap.size w w' := by
  subst hn
  have b1 : Below w.heap.size w (w.alloc (.cells #[.slice A l.length c] 22)) := (Below.refl _ _).alloc (Nat.le_refl _) _
  refine (pNorm_res (some ⟨w.heap.size, 0, none⟩) 1 [⟨A, c, l⟩] _ (hasL_one (c1 := c) h) (by simp) (one_le hl)).mono ?_
  rintro e w' ⟨he, n, rfl⟩
  exact ⟨he, below_drewN b1 n⟩
/-- the same of two -/
theorem pNorm_two (A A' : Option Addr) (c c' n n' : Nat) (l l' : List Int) (w : World) (hn : l.length = n) (hn' : l'.length = n') (h : Has w w.heap.size A l) (h' : Has w w.heap.size A' l') (hl : l.length ≤ 300) (hl' : l'.length ≤ 300) :
    Calls Try.prog 28 #[.slice (some ⟨w.heap.size, 0, none⟩) 2 2] (w.alloc (.cells #[.slice A n c, .slice A' n' c'] 22)) fun e w' => e = .returned (.int .i64 (normL [l, l'])) ∧ Below w.heap.size w w' := by
  subst hn
  subst hn'
  have b1 : Below w.heap.size w (w.alloc (.cells #[.slice A l.length c, .slice A' l'.length c'] 22)) := (Below.refl _ _).alloc (Nat.le_refl _) _
  refine (pNorm_res (some ⟨w.heap.size, 0, none⟩) 2 [⟨A, c, l⟩, ⟨A', c', l'⟩] _ (hasL_two (c1 := c) (c2 := c') h h') (by simp) (two_le hl hl')).mono ?_
  rintro e w' ⟨he, n, rfl⟩
  exact ⟨he, below_drewN b1 n⟩
theorem refNorm_two (A A' : Option Addr) (c c' n n' : Nat) (l l' : List Int) (w : World) (hn : l.length = n) (hn' : l'.length = n') (h : Has w w.heap.size A l) (h' : Has w w.heap.size A' l') (hl : l.length ≤ 300) (hl' : l'.length ≤ 300) :
    Calls Try.prog 29 #[.slice (some ⟨w.heap.size, 0, none⟩) 2 2] (w.alloc (.cells #[.slice A n c, .slice A' n' c'] 22)) fun e w' => e = .returned (.int .i64 (normL [l, l'])) ∧ Below w.heap.size w w' := by
  subst hn
  subst hn'
  have b1 : Below w.heap.size w (w.alloc (.cells #[.slice A l.length c, .slice A' l'.length c'] 22)) := (Below.refl _ _).alloc (Nat.le_refl _) _
  refine (refNorm_res (some ⟨w.heap.size, 0, none⟩) 2 [⟨A, c, l⟩, ⟨A', c', l'⟩] _ (hasL_two (c1 := c) (c2 := c') h h') (by simp) (two_le hl hl')).mono ?_
  rintro e w' ⟨he, n, rfl⟩
  exact ⟨he, below_drewN b1 n⟩

set_option maxRecDepth 100000 in
set_option maxHeartbeats 1000000 in
theorem awake_any (w : World)
    (T : Hid (Tab w) := by first | assumption | exact tab_b (by assumption) (by assumption) | exact tab_d0 (by assumption) | exact tab_d (by assumption) (by assumption)) :
    Calls Try.prog 11 #[] w fun e w' => e = .returned (.bool true) ∧ Below w.heap.size w w' := by
  go_enter Try.func11, Try.ntmps11
  go_wp2_with fail
  refine (unit_any 0 w (by omega)).mono ?_
  rintro e w1 ⟨g, c, rfl, ho, hb⟩
  have H1 := Lib.hid (own_read ho)
  have B1 := Lib.hid hb
  clear ho hb
  go_wp2_with fail
  refine (pOver_res _ _ (unitL 256 0) w1 H1.out (by rw [(unit_poly 0).1]; omega)).mono ?_
  obtain ⟨lf, hlf⟩ : ∃ lf, lf = one vOver (unitL 256 0) := ⟨_, rfl⟩
  rw [← hlf]
  have hl2 : lf = toL (vOver (vec (unitL 256 0))) := by rw [hlf, one_yes (unit_poly 0)]
  have hlen : lf.length = 256 := by rw [hl2, toL_length]
  obtain ⟨u0, u3⟩ := over_unit
  rw [← hl2] at u0 u3
  have hpo : IsPoly lf := by rw [hl2]; exact toL_poly _
  have hbk : one vBack lf = unitL 256 0 := by rw [hlf]; exact back_over_list (unit_poly 0)
  rintro e w2 ⟨A2, c2, rfl, ho, hb⟩
  obtain ⟨g2, c2', hv, _⟩ := own_form ho (by omega)
  injection hv with hv1 _ hv3
  subst hv1
  subst hv3
  have e0 : w2.cell? ⟨g2, 0, none⟩ = some (.int .i64 1) := by rw [own_cell ho (by omega), u0]
  have e3 : w2.cell? ⟨g2, 255, none⟩ = some (.int .i64 1) := by rw [own_cell ho (by omega), u3]
  have H2 := Lib.hid (own_read ho)
  have B2 := Lib.hid ((B1.out.trans (hb.mono B1.out.size)))
  have n0 : lf.length ≤ 256 := by omega
  have n1 : 256 ≤ lf.length := by omega
  have tl : ((lf.length : Int) != 256) = false := by rw [hlen]; rfl
  have HL := Lib.hid hlen
  have HP := Lib.hid hpo
  have HB := Lib.hid hbk
  clear ho hb u0 u3 hlf hl2 hlen hpo hbk
  go_wp2_with fail
  refine (pBack_res _ _ lf w2 H2.out (by omega)).mono ?_
  rw [HB.out]
  rintro e w3 ⟨A3, c3, rfl, ho, hb⟩
  have H3 := Lib.hid (own_read ho)
  have H2' := Lib.hid (has_next H2.out hb)
  have B3 := Lib.hid ((B2.out.trans (hb.mono B2.out.size)))
  clear ho hb
  go_wp2_with fail
  refine (unit_any 0 w3 (by omega)).mono ?_
  rintro e w4 ⟨g4, c4, rfl, ho, hb⟩
  have H4 := Lib.hid (own_read ho)
  have H3' := Lib.hid (has_next H3.out hb)
  have H2'' := Lib.hid (has_next H2'.out hb)
  have B4 := Lib.hid ((B3.out.trans (hb.mono B3.out.size)))
  clear ho hb
  go_wp2_with fail
  refine (same_true _ _ _ _ w4.heap.size (unitL 256 0) w4 (by rw [(unit_poly 0).1]; omega) H3'.out H4.out).mono ?_
  rintro e w5 ⟨rfl, n5, rfl⟩
  obtain ⟨w5, hw5⟩ : ∃ v, w4.drewN n5 = v := ⟨_, rfl⟩
  rw [hw5]
  have H5 : Hid (Has w5 w5.heap.size (some ⟨g2, 0, none⟩) lf) := by rw [← hw5]; exact H2''.out
  have B5 : Hid (Below w.heap.size w w5) := by rw [← hw5]; exact below_drewN B4.out n5
  clear hw5 H2'' B4 H3' H4
  go_wp2_with fail
  refine (unit_any 3 w5 (by omega)).mono ?_
  rintro e w6 ⟨g6, c6, rfl, ho, hb⟩
  have U6 := Lib.hid (own_read ho)
  have H6 := Lib.hid (has_next H5.out hb)
  have B6 := Lib.hid (B5.out.trans (hb.mono B5.out.size))
  clear ho hb H5
  go_wp2_with fail
  refine (pNorm_one _ _ _ (unitL 256 3) w6 rfl U6.out (by rw [(unit_poly 3).1]; omega)).mono ?_
  rw [norm_unit 3 (by omega)]
  rintro e w7 ⟨rfl, hb⟩
  have H7 := Lib.hid (has_next H6.out hb)
  have B7 := Lib.hid (B6.out.trans (hb.mono B6.out.size))
  clear hb H6 U6
  go_wp2_with fail
  refine (pNorm_one none 0 0 [] w7 rfl (fun k hk => by cases hk) (by simp)).mono ?_
  rw [normL_none]
  rintro e w8 ⟨rfl, hb⟩
  have H8 := Lib.hid (has_next H7.out hb)
  have B8 := Lib.hid (B7.out.trans (hb.mono B7.out.size))
  clear hb H7
  go_wp2_with fail
  refine (pNorm_res none 0 [] w8 (fun k hk => by cases hk) (by simp) nil_le).mono ?_
  rw [show nums [] = [] from rfl, normL_nil]
  rintro e w9 ⟨rfl, n9, rfl⟩
  go_wp2_with fail
  refine (pMay_any _ _ lf (w8.drewN n9) (H8.out.drewN n9) (by omega)).mono ?_
  rw [mayB_yes HP.out]
  rintro e wz ⟨rfl, nz, rfl⟩
  go_wp2
  go_ret
  exact ⟨rfl, below_drewN B8.out _⟩
end Go.Proofs.Ytneopnlklhcopaa
