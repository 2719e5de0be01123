/- Several texts in one: Pm, Pn, Ok. -/
import Derived.Test.YtidpihpddkfhgaaDoorPv
/- Contract: the landed code's read, of bytes enough. -/
namespace Go.Proofs.YtidpihpddkfhgaaDoor
open Go.RowKit Slices Go.Proofs.YtidpihpddkfhgaaDoor.Bit

/-- what was made later shares nothing with what was made before -/
theorem dis_late {W W' : World} {B m m' : Nat} {v v' : Value} {xs xs' : List Value} (h : W.ownsRow B 5 1 v m xs) (h' : W'.ownsRow W.heap.size 5 1 v' m' xs') : Dis v v' := by
  by_cases e : v.ownBlock = none
  · exact .inl e
  · refine .inr (.inr fun q => ?_)
    obtain ⟨p, hp⟩ := Option.ne_none_iff_exists'.1 e
    have h1 := (h.lt p hp).2
    have h2 := (h'.lt p (q ▸ hp)).1
    omega
theorem dis_comm {v v' : Value} (h : Dis v v') : Dis v' v := by
  rcases h with h | h | h
  · exact .inr (.inl h)
  · exact .inl h
  · exact .inr (.inr (Ne.symm h))

set_option maxRecDepth 100000 in
set_option maxHeartbeats 2000000 in
theorem read_long (a0 : Addr) (c N M : Nat) (l : List Int) (w : World) (hN : N = l.length) (hM : N = M + 2420) (hb : N ≤ 6000) (hc : N ≤ c) (hh : Has .u8 w w.heap.size (some a0) l) (hf : Fit 8 l) :
    Calls Tryd.prog 36 #[.slice (some a0) N c] w (ReadQ l w) := by
  have HI : Hid ((Tryd.prog.info? 24).map (·.size) = some 14) := by show _ = _; kernel_rfl
  have HOZ : Hid (zeroV.all (·.oneCell') = true) := vals_one zeroA none 0 none 0
  have H := Lib.hid hh
  have HN := Lib.hid hN
  have HM := Lib.hid hM
  have hbd : bodyOf l = l.take M := by unfold bodyOf; rw [← hN, hM, Nat.add_sub_cancel]
  have hsg : sigOf l = l.drop M := by unfold sigOf; rw [← hN, hM, Nat.add_sub_cancel]
  have HBD := Lib.hid hbd
  have HSG := Lib.hid hsg
  have HTM : Hid ((l.take M).length = M) := by show _ = _; rw [List.length_take, ← hN]; omega
  have HTD : Hid ((l.drop M).length = N - M) := by show _ = _; rw [List.length_drop, ← hN]
  have HFt : Hid (Fit 8 (l.take M)) := fun i hi => by
    rw [HTM.out] at hi
    rw [getD_take l M i hi]
    exact hf i (by omega)
  have d1 : decide (2420 ≤ (N : Int)) = true := by rw [decide_eq_true_iff]; omega
  have d2 : decide ((N : Int) ≤ 6000) = true := by rw [decide_eq_true_iff]; omega
  have m0 : (N : Int) - 2420 = (M : Int) := by omega
  have m2 : (M : Int) ≤ (N : Int) := by omega
  have m3 : (M : Int) ≤ (c : Int) := by omega
  have m4 : (N : Int) ≤ (c : Int) := by omega
  have m5 : ¬ c = M := by omega
  clear hh hf hN hM hbd hsg
  go_enter Tryd.func36, Tryd.ntmps36
  go_wp2_with fail
  refine (pSizes_1 _).mono ?_
  rintro e w1 ⟨rfl, hb⟩
  have R0 := Lib.hid (row_below (heap_alloc_new w (.cells zeroV 24)) hb)
  have B1 := Lib.hid (below_next (below_new w _) hb)
  clear hb
  go_wp2_with fail
  refine (unless_yes 3 _ _).mono ?_
  rintro e w2 ⟨rfl, rfl⟩
  go_wp2_with fail
  refine (requestIn_any (some a0) M c (l.take M) w1 ((has_next H.out B1.out).take M) HTM.out (fun h => by cases h) (by omega) HFt.out).mono ?_
  rintro e w3 ⟨A1, c1, A2, c2, ve, rfl, ho1, ho2, hve, hb⟩
  have R3 := Lib.hid (row_below R0.out hb)
  have B3 := Lib.hid (below_next B1.out hb)
  have HO1 := Lib.hid (own_down ho1 B1.out.size)
  have HO2 := Lib.hid (own_down ho2 B1.out.size)
  have HVE := Lib.hid hve
  have HYES : Hid ((takeA bndA 300 2000 100 (some (l.take M))).2 = some [] → IsAsk l (takeA bndA 300 2000 100 (some (l.take M))).1) := by
    have q := read_yes (l := l)
    rw [HBD.out] at q
    exact q HFt.out
  have HNO : Hid ((takeA bndA 300 2000 100 (some (l.take M))).2 ≠ some [] → ∀ b, ¬ IsAsk l b) := by
    have q := read_no (l := l)
    rw [HBD.out] at q
    exact q
  generalize (takeA bndA 300 2000 100 (some (l.take M))).2 = s' at HVE HYES HNO
  generalize (takeA bndA 300 2000 100 (some (l.take M))).1 = b at HO1 HO2 HYES ⊢
  clear ho1 ho2 hve hb R0 B1
  have HOV := Lib.hid (vals_one b A1 c1 A2 c2)
  obtain ⟨V, hV⟩ : ∃ V, V = askVals b A1 c1 A2 c2 := ⟨_, rfl⟩
  have HV := Lib.hid hV
  have hv14 : V.size = 14 := by rw [hV]; rfl
  rw [← hV] at HOV ⊢
  obtain ⟨v0, v1, v2, v3, v4, v5, v6, v7, v8, v9, v10, v11, v12, v13, hVL⟩ := fourteen hv14
  have HVL := Lib.hid hVL
  have HVs : Hid (some V.size = some 14) := by show _ = _; rw [hv14]
  have HSZ : Hid (V.size = 14) := hv14
  clear hV hv14 hVL
  by_cases hE : s' = some []
  · obtain rfl : ve = .nilIface := by
      subst hE
      rcases HVE.out with h | ⟨h0, _⟩
      · exact h.2
      · exact absurd rfl h0
    have HIS := Lib.hid (HYES.out hE)
    have HRI : Hid (ReadIs l b (l.take M) (l.drop M) 0) := .inr (.inr ⟨by have := HN.out; omega, by have := HN.out; omega, HIS.out, HBD.out.symm, HSG.out.symm, rfl⟩)
    clear hE HYES HNO HIS
    go_wp2_with (refine wpList_store_row rfl 24 _ _ rfl w3.heap.size V rfl rfl 24 _ (heap_alloc_new w3 _) (by rw [HVs.out]; exact HI.out) (by rw [HSZ.out]; rfl) HOV.out ?_)
    have HG5 : Hid (w3.grownBy ((w3.alloc (.cells zeroV 24)).setRow w3.heap.size V) none) := grown_new_row w3 _ _ V
    have HV5 : Hid (((w3.alloc (.cells zeroV 24)).setRow w3.heap.size V).heap[w3.heap.size]? = some (.cells V 24 (0, 0))) := setRow_heap _ _ _ _ _ _ (heap_alloc_new w3 _)
    have GN : Hid (w.heap.size ≠ w3.heap.size) := fun e => by have := (Array.getElem?_eq_some_iff.1 R3.out).1; omega
    unfold zeroV at HG5 HV5
    generalize (w3.alloc (.cells #[.int .i64 0, .int .i64 0, .int .i64 0, .int .i64 0, .int .i64 0, .int .i64 0, .int .i64 0, .int .i64 0, .int .i64 0, .int .i64 0, .int .i64 0, .string { data := #[] }, .slice none 0 0, .slice none 0 0] 24)).setRow w3.heap.size V = W5 at HG5 HV5 ⊢
    have GB : Hid (Below w3.heap.size w3 W5) := (Below.refl _ _).grown HG5.out (Nat.le_refl _) (fun q hq => by cases hq)
    obtain ⟨g5, hg5⟩ : ∃ g5, g5 = w3.heap.size := ⟨_, rfl⟩
    have R5 := Lib.hid (row_below R3.out GB.out)
    have B5 := Lib.hid (below_next B3.out GB.out)
    have HO15 := Lib.hid (own_next HO1.out GB.out)
    have HO25 := Lib.hid (own_next HO2.out GB.out)
    have HE5 := Lib.hid (HVE.out.next GB.out)
    rw [← hg5] at HV5 GN ⊢
    clear R3 B3 HO1 HO2 HVE HG5 GB hg5
    clear HE5
    have HS : Hid (∀ W : World, W.heap[g5]? = some (.cells #[v0, v1, v2, v3, v4, v5, v6, v7, v8, v9, v10, v11, v12, v13] 24 (0, 0)) → W.cell? ⟨g5, 0, none⟩ = some v0 ∧ W.cell? ⟨g5, 1, none⟩ = some v1 ∧ W.cell? ⟨g5, 2, none⟩ = some v2 ∧ W.cell? ⟨g5, 3, none⟩ = some v3 ∧ W.cell? ⟨g5, 4, none⟩ = some v4 ∧ W.cell? ⟨g5, 5, none⟩ = some v5 ∧ W.cell? ⟨g5, 6, none⟩ = some v6 ∧ W.cell? ⟨g5, 7, none⟩ = some v7 ∧ W.cell? ⟨g5, 8, none⟩ = some v8 ∧ W.cell? ⟨g5, 9, none⟩ = some v9 ∧ W.cell? ⟨g5, 10, none⟩ = some v10 ∧ W.cell? ⟨g5, 11, none⟩ = some v11 ∧ W.cell? ⟨g5, 12, none⟩ = some v12 ∧ W.cell? ⟨g5, 13, none⟩ = some v13) := fun W h => ⟨cell_of_row _ _ 0 _ _ _ h, cell_of_row _ _ 1 _ _ _ h, cell_of_row _ _ 2 _ _ _ h, cell_of_row _ _ 3 _ _ _ h, cell_of_row _ _ 4 _ _ _ h, cell_of_row _ _ 5 _ _ _ h, cell_of_row _ _ 6 _ _ _ h, cell_of_row _ _ 7 _ _ _ h, cell_of_row _ _ 8 _ _ _ h, cell_of_row _ _ 9 _ _ _ h, cell_of_row _ _ 10 _ _ _ h, cell_of_row _ _ 11 _ _ _ h, cell_of_row _ _ 12 _ _ _ h, cell_of_row _ _ 13 _ _ _ h⟩
    rw [HVL.out] at HV5
    refine wp_region_held_drew (S := fun W => W.cell? ⟨g5, 0, none⟩ = some v0 ∧ W.cell? ⟨g5, 1, none⟩ = some v1 ∧ W.cell? ⟨g5, 2, none⟩ = some v2 ∧ W.cell? ⟨g5, 3, none⟩ = some v3 ∧ W.cell? ⟨g5, 4, none⟩ = some v4 ∧ W.cell? ⟨g5, 5, none⟩ = some v5 ∧ W.cell? ⟨g5, 6, none⟩ = some v6 ∧ W.cell? ⟨g5, 7, none⟩ = some v7 ∧ W.cell? ⟨g5, 8, none⟩ = some v8 ∧ W.cell? ⟨g5, 9, none⟩ = some v9 ∧ W.cell? ⟨g5, 10, none⟩ = some v10 ∧ W.cell? ⟨g5, 11, none⟩ = some v11 ∧ W.cell? ⟨g5, 12, none⟩ = some v12 ∧ W.cell? ⟨g5, 13, none⟩ = some v13) (by kernel_rfl) (HS.out _ HV5.out) (fun hHeld => ?_)
    refine takeD (i := 0) (d := some 47) (v := .agg #[v0, v1, v2, v3, v4, v5, v6, v7, v8, v9, v10, v11, v12, v13]) rfl rfl (by kernel_rfl) (by kernel_rfl) (by kernel_rfl) (fun _ _ _ h => h) (Or.inl ⟨by rfl, (by intro W hS; go_simp)⟩) hHeld ?_
    try simp only [Act.put, List.setIfInBounds_toArray, List.set_cons_zero, List.set_cons_succ]
    refine takeD (i := 1) (d := some 48) (v := .slice (some a0) N c) rfl rfl (by kernel_rfl) (by kernel_rfl) (by kernel_rfl) (fun _ _ _ h => h) (Or.inl ⟨by rfl, (by intro W hS; go_simp)⟩) hHeld ?_
    try simp only [Act.put, List.setIfInBounds_toArray, List.set_cons_zero, List.set_cons_succ]
    refine takeD (i := 2) (d := some 49) (v := .int .i64 (M : Int)) rfl rfl (by kernel_rfl) (by kernel_rfl) (by kernel_rfl) (fun _ _ _ h => h) (Or.inl ⟨by rfl, (by intro W hS; go_simp)⟩) hHeld ?_
    try simp only [Act.put, List.setIfInBounds_toArray, List.set_cons_zero, List.set_cons_succ]
    refine takeD (i := 3) (d := some 50) (v := .slice (some a0) M c) rfl rfl (by kernel_rfl) (by kernel_rfl) (by kernel_rfl) (fun _ _ _ h => h) (Or.inl ⟨by rfl, (by intro W hS; go_simp)⟩) hHeld ?_
    try simp only [Act.put, List.setIfInBounds_toArray, List.set_cons_zero, List.set_cons_succ]
    refine takeD (i := 5) (d := some 52) (v := .slice (some a0) N c) rfl rfl (by kernel_rfl) (by kernel_rfl) (by kernel_rfl) (fun _ _ _ h => h) (Or.inl ⟨by rfl, (by intro W hS; go_simp)⟩) hHeld ?_
    try simp only [Act.put, List.setIfInBounds_toArray, List.set_cons_zero, List.set_cons_succ]
    refine takeD (i := 6) (d := some 53) (v := .int .i64 (M : Int)) rfl rfl (by kernel_rfl) (by kernel_rfl) (by kernel_rfl) (fun _ _ _ h => h) (Or.inl ⟨by rfl, (by intro W hS; go_simp)⟩) hHeld ?_
    try simp only [Act.put, List.setIfInBounds_toArray, List.set_cons_zero, List.set_cons_succ]
    refine takeD (i := 7) (d := some 54) (v := .slice (some (a0.add M)) (N - M) (c - M)) rfl rfl (by kernel_rfl) (by kernel_rfl) (by kernel_rfl) (fun _ _ _ h => h) (Or.inl ⟨by rfl, (by intro W hS; go_simp)⟩) hHeld ?_
    try simp only [Act.put, List.setIfInBounds_toArray, List.set_cons_zero, List.set_cons_succ]
    refine wpAnyH_ready (rs := [4]) (by kernel_rfl) (by simp) (AllReadyH.cons rfl (fun K hK => ?_) AllReadyH.nil)
    go_simp
    refine (clone_any w.heap.size M c (some a0) (l.take M) _ ((H.out.below (below_next B5.out (Below.refl _ _).drew)).take M) HTM.out (fun h => by cases h) (by omega)).mono ?_
    rintro e w8 ⟨X, cx, rfl, hx, hb8⟩
    have B8 := Lib.hid (below_next B5.out (below_next (Below.refl _ _).drew hb8))
    have L8 : Hid (Below W5.heap.size W5 w8) := below_next (Below.refl _ _).drew hb8
    have HX8 := Lib.hid hx
    have HV8 := Lib.hid (row_below HV5.out L8.out)
    have R8 := Lib.hid (row_below R5.out L8.out)
    have HO18 := Lib.hid (own_next HO15.out L8.out)
    have HO28 := Lib.hid (own_next HO25.out L8.out)
    have DX := Lib.hid (dis_late (W := W5.drew) HO15.out hx)
    clear hx hb8
    refine hK.out _ _ (HS.out _ HV8.out) (fun hHeld => ?_)
    clear hK K HV5 R5 HO15 HO25
    try simp only [Act.put, List.setIfInBounds_toArray, List.set_cons_zero, List.set_cons_succ]
    refine wpAnyH_ready (rs := [8]) (by kernel_rfl) (by simp) (AllReadyH.cons rfl (fun K hK => ?_) AllReadyH.nil)
    go_simp
    refine (clone_any w.heap.size (N - M) (c - M) (some (a0.add M)) (l.drop M) _ (has_dropN (H.out.below B8.out) M) HTD.out (fun h => by cases h) (by omega)).mono ?_
    rintro e w9 ⟨Y, cy, rfl, hy, hb9⟩
    have B9 := Lib.hid (below_next B8.out hb9)
    have HY9 := Lib.hid hy
    have HX9 := Lib.hid (own_next HX8.out hb9)
    have HV9 := Lib.hid (row_below HV8.out hb9)
    have R9 := Lib.hid (row_below R8.out hb9)
    have HO19 := Lib.hid (own_next HO18.out hb9)
    have HO29 := Lib.hid (own_next HO28.out hb9)
    have DY := Lib.hid (dis_late HO18.out hy)
    have DXY := Lib.hid (dis_late HX8.out hy)
    clear hy hb9
    refine hK.out _ _ (HS.out _ HV9.out) (fun hHeld => ?_)
    clear hK K HV8 R8 HO18 HO28 HX8
    try simp only [Act.put, List.setIfInBounds_toArray, List.set_cons_zero, List.set_cons_succ]
    refine wpAnyH_ready (rs := [9]) (by kernel_rfl) (by simp) (AllReadyH.cons rfl (fun K hK => ?_) AllReadyH.nil)
    refine step_store_row rfl 24 _ _ rfl w.heap.size #[v0, v1, v2, v3, v4, v5, v6, v7, v8, v9, v10, v11, v12, v13] rfl rfl 24 zeroV R9.out (by rw [← HVL.out, HVs.out]; exact HI.out) rfl (by rw [← HVL.out]; exact HOV.out) ?_
    refine hK.out _ _ (HS.out _ ((setRow_other _ _ _ _ (fun e => GN.out e.symm)).trans HV9.out)) (fun hHeld => ?_)
    clear hK K
    refine takeD (i := 10) (d := some 3) (v := .slice X M cx) rfl rfl (by kernel_rfl) (by kernel_rfl) (by kernel_rfl) (fun _ _ _ h => h) (Or.inl ⟨by rfl, (by intro W hS; go_simp)⟩) hHeld ?_
    refine takeD (i := 11) (d := some 4) (v := .slice Y (N - M) cy) rfl rfl (by kernel_rfl) (by kernel_rfl) (by kernel_rfl) (fun _ _ _ h => h) (Or.inl ⟨by rfl, (by intro W hS; go_simp)⟩) hHeld ?_
    refine takeD (i := 12) (d := some 5) (v := .nilIface) rfl rfl (by kernel_rfl) (by kernel_rfl) (by kernel_rfl) (fun _ _ _ h => h) (Or.inl ⟨by rfl, (by intro W hS; go_simp)⟩) hHeld ?_
    refine wpAnyH_done (by kernel_rfl) ?_ _
    go_wp2
    rw [← HVL.out]
    have gS := grown_setRow w9 w.heap.size V
    have hrow := setRow_heap w9 w.heap.size zeroV V 24 (0, 0) R9.out
    refine bodyPost_ret (v := .tuple #[.agg V, .slice X M cx, .slice Y (N - M) cy, .nilIface]) ?_ rfl ?_
    · refine Eq.trans (results_cell4 (p := 2) (a := 3) (b := 4) (c := 5) (ty := 24) ?h _ _ w.heap.size 24 V (0, 0) _ ?hp hrow Tryd.underlying24 rfl (by rw [HVs.out]; exact HI.out)) rfl
      case h => rfl
      case hp => rfl
    · refine ⟨b, l.take M, l.drop M, 0, A1, c1, A2, c2, X, cx, Y, cy, .nilIface, HRI.out, by rw [HV.out, HTM.out, HTD.out], .inl (.inl ⟨rfl, rfl⟩), HO19.out.kept gS (own_ne_ask HO19.out R9.out), HO29.out.kept gS (own_ne_ask HO29.out R9.out), ?_, ?_, ?_, ?_, ?_, below_setRow B9.out (Nat.le_refl _) V⟩
      · rw [HTM.out]
        exact (own_down HX9.out B5.out.size).kept gS (own_ne_ask HX9.out R9.out)
      · rw [HTD.out]
        exact (own_down HY9.out B8.out.size).kept gS (own_ne_ask HY9.out R9.out)
      · rw [HTM.out, HTD.out]
        exact dis_comm DXY.out
      · rw [HTM.out]
        exact DX.out
      · rw [HTD.out]
        exact DY.out
  · have HRI : Hid (ReadIs l zeroA [] [] 4) := .inr (.inl ⟨by have := HN.out; omega, by have := HN.out; omega, HNO.out hE, rfl, rfl, rfl, rfl⟩)
    have hve4 : IsW 4 ve w3 := by rw [← endO_four hE]; exact HVE.out
    have HNE : Hid (∃ q, ve = .iface 76 (.pointer (some q))) := by
      rcases hve4 with h | ⟨_, q, p, hv, _⟩
      · exact absurd h.1 (by decide)
      · exact ⟨_, hv⟩
    clear HVE
    have HVE := Lib.hid hve4
    obtain ⟨q, rfl⟩ := HNE.out
    clear hE HYES HNO HNE hve4
    have HG5 : Hid (w3.grownBy ((w3.alloc (.cells zeroV 24)).setRow w3.heap.size V) none) := grown_new_row w3 _ _ V
    have GB : Hid (Below w3.heap.size w3 ((w3.alloc (.cells zeroV 24)).setRow w3.heap.size V)) := (Below.refl _ _).grown HG5.out (Nat.le_refl _) (fun q hq => by cases hq)
    have R5 := Lib.hid (row_below R3.out GB.out)
    have B5 := Lib.hid (below_next B3.out GB.out)
    have HE6 := Lib.hid (HVE.out.next GB.out)
    clear HG5 GB
    go_wp2_with (first
      | (refine wpList_store_row rfl 24 _ _ rfl w3.heap.size V rfl rfl 24 _ (heap_alloc_new w3 _) (by rw [HVs.out]; exact HI.out) (by rw [HSZ.out]; rfl) HOV.out ?_)
      | (refine wpList_store_row rfl 24 _ _ rfl w.heap.size zeroV rfl rfl 24 _ R5.out HI.out rfl HOZ.out ?_))
    unfold zeroV at R5 B5 HE6
    generalize (w3.alloc (.cells #[.int .i64 0, .int .i64 0, .int .i64 0, .int .i64 0, .int .i64 0, .int .i64 0, .int .i64 0, .int .i64 0, .int .i64 0, .int .i64 0, .int .i64 0, .string { data := #[] }, .slice none 0 0, .slice none 0 0] 24)).setRow w3.heap.size V = W5 at R5 B5 HE6 ⊢
    have hrow := setRow_heap W5 w.heap.size zeroV zeroV 24 (0, 0) R5.out
    refine bodyPost_ret (v := .tuple #[.agg zeroV, .slice none 0 0, .slice none 0 0, .iface 76 (.pointer (some q))]) ?_ rfl (readQ_none HRI.out (.inr (HE6.out.put zeroV R5.out)) (below_setRow B5.out (Nat.le_refl _) zeroV))
    refine Eq.trans (results_cell4 (p := 2) (a := 3) (b := 4) (c := 5) (ty := 24) ?h _ _ w.heap.size 24 zeroV (0, 0) _ ?hp hrow Tryd.underlying24 rfl HI.out) rfl
    case h => rfl
    case hp => rfl
end Go.Proofs.YtidpihpddkfhgaaDoor

/- Contract: the landed code's Read. -/
namespace Go.Proofs.YtidpihpddkfhgaaDoor
open Go.RowKit Slices Go.Proofs.YtidpihpddkfhgaaDoor.Bit

theorem read_any (A : Option Addr) (n c : Nat) (l : List Int) (w : World) (h : Has .u8 w w.heap.size A l) (hn : n = l.length) (hA : A = none → n = 0 ∧ c = 0) (hc : n ≤ c) (hf : Fit 8 l) :
    Calls Tryd.prog 36 #[.slice A n c] w (ReadQ l w) := by
  by_cases hs : n < 2420 ∨ 6000 < n
  · exact read_short A n c l w hn hs
  · rcases A with _ | a0
    · have := hA rfl; omega
    · exact read_long a0 c n (n - 2420) l w hn (by omega) (by omega) hc h hf
theorem wrap_two (x : ByteArray) (q : Nat) (w : World) :
    Calls Tryd.prog 25 #[.string x, .iface 76 (.pointer (some ⟨q, 0, none⟩))] w fun e w' => e = .returned (.iface 76 (.pointer (some ⟨w.heap.size, 0, none⟩))) ∧ w' = w.alloc (.cells #[.string x, .iface 76 (.pointer (some ⟨q, 0, none⟩))] 78) := by
  go_enter Tryd.func25, Tryd.ntmps25
  go_wp2
  go_ret
  exact ⟨rfl, rfl⟩
theorem wrap_fw (x : ByteArray) (c : Int) (v : Value) (w : World) (h : IsFW c v w) :
    Calls Tryd.prog 25 #[.string x, v] w fun e w' => ∃ v', e = .returned v' ∧ IsErr c v' w' ∧ Below w.heap.size w w' := by
  rcases h with h | h
  · refine (wrap_any x c v w h).mono ?_
    rintro e w' ⟨v', he, hv, hb⟩
    exact ⟨v', he, hv.err, hb⟩
  · rcases h with ⟨rfl, rfl⟩ | ⟨h0, q, p, rfl, hq, hc⟩
    · exact (wrap_nil x w).mono fun e w' q => ⟨_, q.1, .inl ⟨rfl, rfl⟩, by rw [← q.2]; exact Below.refl _ _⟩
    · refine (wrap_two x q w).mono fun e w' ⟨q1, q2⟩ => ?_
      subst q2
      have hb := below_new w (.cells #[.string x, .iface 76 (.pointer (some ⟨q, 0, none⟩))] 78)
      exact ⟨_, q1, .inr ⟨h0, _, p, rfl, cell_below hc hb, .inr ⟨q, by simp, cell_below hq hb⟩⟩, hb⟩

set_option maxRecDepth 100000 in
set_option maxHeartbeats 2000000 in
theorem readP_any (A : Option Addr) (n c : Nat) (l : List Int) (w : World) (hh : Has .u8 w w.heap.size A l) (hn : n = l.length) (hA : A = none → n = 0 ∧ c = 0) (hc : n ≤ c) (hf : Fit 8 l) :
    Calls Tryd.prog 19 #[.slice A n c] w (ReadP l w) := by
  have HI : Hid ((Tryd.prog.info? 24).map (·.size) = some 14) := by show _ = _; kernel_rfl
  have HC : Hid (∀ W, Below w.heap.size w W → Calls Tryd.prog 36 #[.slice A n c] W (ReadQ l W)) := fun W hb => read_any A n c l W (has_next hh hb) hn hA hc hf
  clear hh hn hA hc hf
  go_enter Tryd.func19, Tryd.ntmps19
  go_wp2_with fail
  refine (HC.out _ (below_new w _)).mono ?_
  rintro e w3 ⟨b, x, y, k, A1, c1, A2, c2, X, cx, Y, cy, ve, hri, rfl, hve, ho1, ho2, hx, hy, dy, dx, dxy, hb⟩
  have R3 := Lib.hid (row_below (heap_alloc_new w (.cells zeroV 24)) hb)
  have B3 := Lib.hid (below_next (below_new w _) hb)
  have hs0 := (below_new w (.cells zeroV 24)).size
  have HO1 := Lib.hid (own_down ho1 hs0)
  have HO2 := Lib.hid (own_down ho2 hs0)
  have HX := Lib.hid (own_down hx hs0)
  have HY := Lib.hid (own_down hy hs0)
  have HVE := Lib.hid hve
  have HRI := Lib.hid hri
  have DY := Lib.hid dy
  have DX := Lib.hid dx
  have DXY := Lib.hid dxy
  clear hri hve ho1 ho2 hx hy dy dx dxy hb hs0 HC
  have HOV := Lib.hid (vals_one b A1 c1 A2 c2)
  obtain ⟨V, hV⟩ : ∃ V, V = askVals b A1 c1 A2 c2 := ⟨_, rfl⟩
  have HV := Lib.hid hV
  have hv14 : V.size = 14 := by rw [hV]; rfl
  rw [← hV] at HOV ⊢
  obtain ⟨v0, v1, v2, v3, v4, v5, v6, v7, v8, v9, v10, v11, v12, v13, hVL⟩ := fourteen hv14
  have HVL := Lib.hid hVL
  have HVs : Hid (some V.size = some 14) := by show _ = _; rw [hv14]
  have HSZ : Hid (V.size = 14) := hv14
  obtain ⟨nx, hnx⟩ : ∃ m, m = x.length := ⟨_, rfl⟩
  obtain ⟨ny, hny⟩ : ∃ m, m = y.length := ⟨_, rfl⟩
  rw [← hnx] at HX DX DY ⊢
  rw [← hny] at HY DXY DY ⊢
  have NX := Lib.hid hnx
  have NY := Lib.hid hny
  clear hV hv14 hVL hnx hny
  go_wp2_with (refine wpList_store_row rfl 24 _ _ rfl w3.heap.size V rfl rfl 24 _ (heap_alloc_new w3 _) (by rw [HVs.out]; exact HI.out) (by rw [HSZ.out]; rfl) HOV.out ?_)
  have HG5 : Hid (w3.grownBy ((w3.alloc (.cells zeroV 24)).setRow w3.heap.size V) none) := grown_new_row w3 _ _ V
  have HV5 : Hid (((w3.alloc (.cells zeroV 24)).setRow w3.heap.size V).heap[w3.heap.size]? = some (.cells V 24 (0, 0))) := setRow_heap _ _ _ _ _ _ (heap_alloc_new w3 _)
  have GN : Hid (w.heap.size ≠ w3.heap.size) := fun e => by have := (Array.getElem?_eq_some_iff.1 R3.out).1; omega
  unfold zeroV at HG5 HV5
  generalize (w3.alloc (.cells #[.int .i64 0, .int .i64 0, .int .i64 0, .int .i64 0, .int .i64 0, .int .i64 0, .int .i64 0, .int .i64 0, .int .i64 0, .int .i64 0, .int .i64 0, .string { data := #[] }, .slice none 0 0, .slice none 0 0] 24)).setRow w3.heap.size V = W5 at HG5 HV5 ⊢
  have GB : Hid (Below w3.heap.size w3 W5) := (Below.refl _ _).grown HG5.out (Nat.le_refl _) (fun q hq => by cases hq)
  obtain ⟨g5, hg5⟩ : ∃ g5, g5 = w3.heap.size := ⟨_, rfl⟩
  have R5 := Lib.hid (row_below R3.out GB.out)
  have B5 := Lib.hid (below_next B3.out GB.out)
  have HO15 := Lib.hid (own_next HO1.out GB.out)
  have HO25 := Lib.hid (own_next HO2.out GB.out)
  have HX5 := Lib.hid (own_next HX.out GB.out)
  have HY5 := Lib.hid (own_next HY.out GB.out)
  have HE5 : Hid (IsFW k ve W5) := by
    rcases HVE.out with h | h
    · exact .inl (isF_next h GB.out)
    · exact .inr (h.next GB.out)
  rw [← hg5] at HV5 GN ⊢
  clear R3 B3 HO1 HO2 HX HY HVE HG5 GB hg5
  have HS : Hid (∀ W : World, W.heap[g5]? = some (.cells #[v0, v1, v2, v3, v4, v5, v6, v7, v8, v9, v10, v11, v12, v13] 24 (0, 0)) → W.cell? ⟨g5, 0, none⟩ = some v0 ∧ W.cell? ⟨g5, 1, none⟩ = some v1 ∧ W.cell? ⟨g5, 2, none⟩ = some v2 ∧ W.cell? ⟨g5, 3, none⟩ = some v3 ∧ W.cell? ⟨g5, 4, none⟩ = some v4 ∧ W.cell? ⟨g5, 5, none⟩ = some v5 ∧ W.cell? ⟨g5, 6, none⟩ = some v6 ∧ W.cell? ⟨g5, 7, none⟩ = some v7 ∧ W.cell? ⟨g5, 8, none⟩ = some v8 ∧ W.cell? ⟨g5, 9, none⟩ = some v9 ∧ W.cell? ⟨g5, 10, none⟩ = some v10 ∧ W.cell? ⟨g5, 11, none⟩ = some v11 ∧ W.cell? ⟨g5, 12, none⟩ = some v12 ∧ W.cell? ⟨g5, 13, none⟩ = some v13) := fun W h => ⟨cell_of_row _ _ 0 _ _ _ h, cell_of_row _ _ 1 _ _ _ h, cell_of_row _ _ 2 _ _ _ h, cell_of_row _ _ 3 _ _ _ h, cell_of_row _ _ 4 _ _ _ h, cell_of_row _ _ 5 _ _ _ h, cell_of_row _ _ 6 _ _ _ h, cell_of_row _ _ 7 _ _ _ h, cell_of_row _ _ 8 _ _ _ h, cell_of_row _ _ 9 _ _ _ h, cell_of_row _ _ 10 _ _ _ h, cell_of_row _ _ 11 _ _ _ h, cell_of_row _ _ 12 _ _ _ h, cell_of_row _ _ 13 _ _ _ h⟩
  rw [HVL.out] at HV5
  refine wp_region_held_drew (S := fun W => W.cell? ⟨g5, 0, none⟩ = some v0 ∧ W.cell? ⟨g5, 1, none⟩ = some v1 ∧ W.cell? ⟨g5, 2, none⟩ = some v2 ∧ W.cell? ⟨g5, 3, none⟩ = some v3 ∧ W.cell? ⟨g5, 4, none⟩ = some v4 ∧ W.cell? ⟨g5, 5, none⟩ = some v5 ∧ W.cell? ⟨g5, 6, none⟩ = some v6 ∧ W.cell? ⟨g5, 7, none⟩ = some v7 ∧ W.cell? ⟨g5, 8, none⟩ = some v8 ∧ W.cell? ⟨g5, 9, none⟩ = some v9 ∧ W.cell? ⟨g5, 10, none⟩ = some v10 ∧ W.cell? ⟨g5, 11, none⟩ = some v11 ∧ W.cell? ⟨g5, 12, none⟩ = some v12 ∧ W.cell? ⟨g5, 13, none⟩ = some v13) (by kernel_rfl) (HS.out _ HV5.out) (fun hHeld => ?_)
  refine takeD (i := 0) (d := some 17) (v := .agg #[v0, v1, v2, v3, v4, v5, v6, v7, v8, v9, v10, v11, v12, v13]) rfl rfl (by kernel_rfl) (by kernel_rfl) (by kernel_rfl) (fun _ _ _ h => h) (Or.inl ⟨by rfl, (by intro W hS; go_simp)⟩) hHeld ?_
  try simp only [Act.put, List.setIfInBounds_toArray, List.set_cons_zero, List.set_cons_succ]
  refine takeD (i := 1) (d := some 18) (v := .slice X nx cx) rfl rfl (by kernel_rfl) (by kernel_rfl) (by kernel_rfl) (fun _ _ _ h => h) (Or.inl ⟨by rfl, (by intro W hS; go_simp)⟩) hHeld ?_
  try simp only [Act.put, List.setIfInBounds_toArray, List.set_cons_zero, List.set_cons_succ]
  refine takeD (i := 2) (d := some 19) (v := .slice Y ny cy) rfl rfl (by kernel_rfl) (by kernel_rfl) (by kernel_rfl) (fun _ _ _ h => h) (Or.inl ⟨by rfl, (by intro W hS; go_simp)⟩) hHeld ?_
  try simp only [Act.put, List.setIfInBounds_toArray, List.set_cons_zero, List.set_cons_succ]
  refine takeD (i := 3) (d := some 20) (v := ve) rfl rfl (by kernel_rfl) (by kernel_rfl) (by kernel_rfl) (fun _ _ _ h => h) (Or.inl ⟨by rfl, (by intro W hS; go_simp)⟩) hHeld ?_
  try simp only [Act.put, List.setIfInBounds_toArray, List.set_cons_zero, List.set_cons_succ]
  refine wpAnyH_ready (rs := [4]) (by kernel_rfl) (by simp) (AllReadyH.cons rfl (fun K hK => ?_) AllReadyH.nil)
  go_simp
  refine (wrap_fw _ k ve W5.drew HE5.out).mono ?_
  rintro e w9 ⟨vx, rfl, hvx, hb9⟩
  have L9 : Hid (Below W5.heap.size W5 w9) := below_next (Below.refl _ _).drew hb9
  have B9 := Lib.hid (below_next B5.out L9.out)
  have HE9 := Lib.hid hvx
  have HV9 := Lib.hid (row_below HV5.out L9.out)
  have R9 := Lib.hid (row_below R5.out L9.out)
  have HO19 := Lib.hid (own_next HO15.out L9.out)
  have HO29 := Lib.hid (own_next HO25.out L9.out)
  have HX9 := Lib.hid (own_next HX5.out L9.out)
  have HY9 := Lib.hid (own_next HY5.out L9.out)
  clear hvx hb9
  refine hK.out _ _ (HS.out _ HV9.out) (fun hHeld => ?_)
  clear hK K HV5 R5 HO15 HO25 HX5 HY5 HE5
  try simp only [Act.put, List.setIfInBounds_toArray, List.set_cons_zero, List.set_cons_succ]
  refine wpAnyH_ready (rs := [5]) (by kernel_rfl) (by simp) (AllReadyH.cons rfl (fun K hK => ?_) AllReadyH.nil)
  refine step_store_row rfl 24 _ _ rfl w.heap.size #[v0, v1, v2, v3, v4, v5, v6, v7, v8, v9, v10, v11, v12, v13] rfl rfl 24 zeroV R9.out (by rw [← HVL.out, HVs.out]; exact HI.out) rfl (by rw [← HVL.out]; exact HOV.out) ?_
  refine hK.out _ _ (HS.out _ ((setRow_other _ _ _ _ (fun e => GN.out e.symm)).trans HV9.out)) (fun hHeld => ?_)
  clear hK K
  refine takeD (i := 6) (d := some 3) (v := .slice X nx cx) rfl rfl (by kernel_rfl) (by kernel_rfl) (by kernel_rfl) (fun _ _ _ h => h) (Or.inl ⟨by rfl, (by intro W hS; go_simp)⟩) hHeld ?_
  refine takeD (i := 7) (d := some 4) (v := .slice Y ny cy) rfl rfl (by kernel_rfl) (by kernel_rfl) (by kernel_rfl) (fun _ _ _ h => h) (Or.inl ⟨by rfl, (by intro W hS; go_simp)⟩) hHeld ?_
  refine takeD (i := 8) (d := some 5) (v := vx) rfl rfl (by kernel_rfl) (by kernel_rfl) (by kernel_rfl) (fun _ _ _ h => h) (Or.inl ⟨by rfl, (by intro W hS; go_simp)⟩) hHeld ?_
  refine wpAnyH_done (by kernel_rfl) ?_ _
  go_wp2
  rw [← HVL.out]
  have gS := grown_setRow w9 w.heap.size V
  have hrow := setRow_heap w9 w.heap.size zeroV V 24 (0, 0) R9.out
  refine bodyPost_ret (v := .tuple #[.agg V, .slice X nx cx, .slice Y ny cy, vx]) ?_ rfl ?_
  · refine Eq.trans (results_cell4 (p := 2) (a := 3) (b := 4) (c := 5) (ty := 24) ?h _ _ w.heap.size 24 V (0, 0) _ ?hp hrow Tryd.underlying24 rfl (by rw [HVs.out]; exact HI.out)) rfl
    case h => rfl
    case hp => rfl
  · have o1 := HO19.out.kept gS (own_ne_ask HO19.out R9.out)
    have o2 := HO29.out.kept gS (own_ne_ask HO29.out R9.out)
    have ox := HX9.out.kept gS (own_ne_ask HX9.out R9.out)
    have oy := HY9.out.kept gS (own_ne_ask HY9.out R9.out)
    refine ⟨b, x, y, k, A1, c1, A2, c2, X, cx, Y, cy, vx, HRI.out, by rw [HV.out, NX.out, NY.out], HE9.out.put V R9.out, ⟨own_read o1, own_read o2, fun e => own_none o1 e, fun e => own_none o2 e, own_capA o1, own_capA o2⟩, o1, ?_, ?_, ?_, ?_, ?_, below_setRow B9.out (Nat.le_refl _) V⟩
    · rw [← NX.out]; exact ox
    · rw [← NY.out]; exact oy
    · rw [← NX.out, ← NY.out]; exact DY.out
    · rw [← NX.out]; exact DX.out
    · rw [← NY.out]; exact DXY.out
end Go.Proofs.YtidpihpddkfhgaaDoor

/- What was asked of the program's functions: the landed code has it. -/
namespace Go.Proofs.YtidpihpddkfhgaaDoor
open Go.RowKit Slices Go.Proofs.YtidpihpddkfhgaaDoor.Bit

theorem askOk : AskOk where
  may a A1 c1 A2 c2 w _ _ := mayP_any a A1 A2 c1 c2 w
  body a A1 c1 A2 c2 w h _ _ := bodyP_any a A1 A2 c1 c2 w h
  same a b A1 c1 A2 c2 D1 d1 D2 d2 w h h' _ _ wa wb := sameP_any a b A1 A2 D1 D2 c1 c2 d1 d2 w h h' wa wb
  read A n c l w h hn _ hA hc hf := readP_any A n c l w h hn hA hc hf
end Go.Proofs.YtidpihpddkfhgaaDoor

