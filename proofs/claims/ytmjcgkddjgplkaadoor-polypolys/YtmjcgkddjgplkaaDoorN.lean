/- Contract: what every program answers that is one. -/
import Derived.Test.YtmjcgkddjgplkaaDoorM
import Derived.Test.YtmjcgkddjgplkaaDoorPolyG
namespace Go.Proofs.YtmjcgkddjgplkaaDoor
open Go.RowKit Slices Go.Proofs.YtmjcgkddjgplkaaDoor.Ring

theorem over_unit : (toL (vOver (vec (unitL 256 0)))).getD 0 0 = 1 ∧ (toL (vOver (vec (unitL 256 0)))).getD 1 0 = 0 ∧ (toL (vOver (vec (unitL 256 0)))).getD 254 0 = 1 ∧ (toL (vOver (vec (unitL 256 0)))).getD 255 0 = 0 := by
  rw [toL_at _ (by omega), toL_at _ (by omega), toL_at _ (by omega), toL_at _ (by omega)]
  decide +kernel

set_option maxRecDepth 100000 in
set_option maxHeartbeats 1000000 in
theorem awake_any (w : World)
    (T : Hid (Tab w) := by first | assumption | exact tab_b (by assumption) (by assumption) | exact tab_d0 (by assumption) | exact tab_d (by assumption) (by assumption)) :
    Calls Tryd.prog 11 #[] w fun e w' => e = .returned (.bool true) ∧ Below w.heap.size w w' := by
  go_enter Tryd.func11, Tryd.ntmps11
  go_wp2_with fail
  refine (unit_any 0 w (by omega)).mono ?_
  rintro e w1 ⟨g, c, rfl, ho, hb⟩
  have H1 := Lib.hid (own_read ho)
  have B1 := Lib.hid hb
  clear ho hb
  go_wp2_with fail
  refine (pOver_res _ _ (unitL 256 0) w1 H1.out (by rw [(unit_poly 0).1]; omega)).mono ?_
  obtain ⟨lf, hlf⟩ : ∃ lf, lf = one vOver (unitL 256 0) := ⟨_, rfl⟩
  rw [← hlf]
  have hl2 : lf = toL (vOver (vec (unitL 256 0))) := by rw [hlf, one_yes (unit_poly 0)]
  have hlen : lf.length = 256 := by rw [hl2, toL_length]
  obtain ⟨u0, u1, u2, u3⟩ := over_unit
  rw [← hl2] at u0 u1 u2 u3
  have hpo : IsPoly lf := by rw [hl2]; exact toL_poly _
  have hbk : one vBack lf = unitL 256 0 := by rw [hlf]; exact back_over_list (unit_poly 0)
  rintro e w2 ⟨A2, c2, rfl, ho, hb⟩
  obtain ⟨g2, c2', hv, _⟩ := own_form ho (by omega)
  injection hv with hv1 _ hv3
  subst hv1
  subst hv3
  have e0 : w2.cell? ⟨g2, 0, none⟩ = some (.int .i64 1) := by rw [own_cell ho (by omega), u0]
  have e1 : w2.cell? ⟨g2, 1, none⟩ = some (.int .i64 0) := by rw [own_cell ho (by omega), u1]
  have e2 : w2.cell? ⟨g2, 254, none⟩ = some (.int .i64 1) := by rw [own_cell ho (by omega), u2]
  have e3 : w2.cell? ⟨g2, 255, none⟩ = some (.int .i64 0) := by rw [own_cell ho (by omega), u3]
  have H2 := Lib.hid (own_read ho)
  have B2 := Lib.hid ((B1.out.trans (hb.mono B1.out.size)))
  have n0 : lf.length ≤ 256 := by omega
  have n1 : 256 ≤ lf.length := by omega
  have tl : ((lf.length : Int) != 256) = false := by rw [hlen]; rfl
  have HL := Lib.hid hlen
  have HP := Lib.hid hpo
  have HB := Lib.hid hbk
  clear ho hb u0 u1 u2 u3 hlf hl2 hlen hpo hbk
  go_wp2_with fail
  refine (pBack_res _ _ lf w2 H2.out (by omega)).mono ?_
  rw [HB.out]
  rintro e w3 ⟨A3, c3, rfl, ho, hb⟩
  have H3 := Lib.hid (own_read ho)
  have H2' := Lib.hid (has_next H2.out hb)
  have B3 := Lib.hid ((B2.out.trans (hb.mono B2.out.size)))
  clear ho hb
  go_wp2_with fail
  refine (unit_any 0 w3 (by omega)).mono ?_
  rintro e w4 ⟨g4, c4, rfl, ho, hb⟩
  have H4 := Lib.hid (own_read ho)
  have H3' := Lib.hid (has_next H3.out hb)
  have H2'' := Lib.hid (has_next H2'.out hb)
  have B4 := Lib.hid ((B3.out.trans (hb.mono B3.out.size)))
  clear ho hb
  go_wp2_with fail
  refine (same_true _ _ _ _ w4.heap.size (unitL 256 0) w4 (by rw [(unit_poly 0).1]; omega) H3'.out H4.out).mono ?_
  rintro e w5 ⟨rfl, n5, rfl⟩
  go_wp2_with fail
  refine (pOver_res none 0 [] (w4.drewN n5) (fun k hk => by cases hk) (by simp)).mono ?_
  rw [one_no (F := vOver) (l := []) (fun h => by have := h.1; simp at this)]
  rintro e w6 ⟨A6, c6, rfl, ho, hb⟩
  have H6 := Lib.hid (has_next (H2''.out.drewN n5) hb)
  have B6 := Lib.hid (((below_drewN B4.out n5).trans (hb.mono B4.out.size)))
  clear ho hb
  go_wp2_with fail
  refine (pMay_any _ _ lf w6 H6.out (by omega)).mono ?_
  rw [mayB_yes HP.out]
  rintro e w7 ⟨rfl, n7, rfl⟩
  go_wp2
  go_ret
  exact ⟨rfl, below_drewN B6.out _⟩
end Go.Proofs.YtmjcgkddjgplkaaDoor
