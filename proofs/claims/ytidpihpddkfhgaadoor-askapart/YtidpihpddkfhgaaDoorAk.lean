/- The law AskBodies, walked. -/
import Derived.Test.YtidpihpddkfhgaaDoorAj
namespace Go.Proofs.YtidpihpddkfhgaaDoor
open Go.RowKit Slices Go.Proofs.YtidpihpddkfhgaaDoor.Bit

theorem great_no {a : AskV} (h : greatB a = false) : SmallA a := by
  unfold greatB at h
  simp at h
  unfold SmallA
  omega
theorem greatA_V {V : Array Value} {a : AskV} {A1 A2 : Option Addr} {c1 c2 : Nat} (hV : V = askVals a A1 c1 A2 c2) (w : World) :
    Calls Tryd.prog 6 #[.agg V] w fun e w' => e = .returned (.bool (greatB a)) ∧ Below w.heap.size w w' := by
  subst hV
  exact greatA_any a A1 A2 c1 c2 w
theorem box_row2 (w : World) (o : Obj) (cs : Array Value) (t : TypeId) : ((w.alloc o).alloc (.cells cs t)).heap[w.heap.size + 1]? = some (.cells cs t (0, 0)) := by
  have h := heap_alloc_new (w.alloc o) (.cells cs t)
  have e : (w.alloc o).heap.size = w.heap.size + 1 := by simp
  rw [e] at h
  exact h
theorem fourteen {V : Array Value} (h : V.size = 14) : ∃ v0 v1 v2 v3 v4 v5 v6 v7 v8 v9 v10 v11 v12 v13, V = #[v0, v1, v2, v3, v4, v5, v6, v7, v8, v9, v10, v11, v12, v13] := by
  obtain ⟨l⟩ := V
  have hl : l.length = 14 := h
  match l, hl with
  | [a, b, c, d, e, f, g, i, j, k, m, n, o, p], _ => exact ⟨a, b, c, d, e, f, g, i, j, k, m, n, o, p, rfl⟩
/-- both answers of Body tell the same -/
theorem bodies_same {a : AskV} {w w1 w2 : World} {A A' : Option Addr} {n n' c c' : Nat} {v : Value} {k : Int}
    (h : (MayA a ∧ v = .nilIface ∧ n = (laidA a).length ∧ w1.ownsRow w.heap.size 5 1 (.slice A n c) n (ints .u8 (laidA a))) ∨ (¬ MayA a ∧ IsErr 2 v w1 ∧ n = 0))
    (hb : Below w1.heap.size w1 w2) (h1 : MayA a → k = 0 ∧ n' = (laidA a).length ∧ w2.ownsRow w1.heap.size 5 1 (.slice A' n' c') n' (ints .u8 (laidA a))) (h2 : ¬ MayA a → k = 2 ∧ n' = 0 ∧ A' = none ∧ c' = 0) :
    IsErr k v w2 ∧ ∃ L, L.length ≤ 40000 ∧ n = L.length ∧ n' = L.length ∧ Has .u8 w2 w2.heap.size A L ∧ Has .u8 w2 w2.heap.size A' L := by
  rcases h with ⟨m, hv, hn, ho⟩ | ⟨m, he, hn⟩
  · obtain ⟨k0, hn', ho'⟩ := h1 m
    have hs := may_small m
    refine ⟨.inl ⟨k0, hv⟩, laidA a, by rw [laidA_len]; omega, hn, hn', has_next (own_readn hn ho) hb, own_readn hn' ho'⟩
  · obtain ⟨k2, hn', hA, hc⟩ := h2 m
    subst k2
    exact ⟨he.next hb, [], by simp, hn, hn', Has.nil _ _ _ _, Has.nil _ _ _ _⟩

set_option maxRecDepth 100000 in
set_option maxHeartbeats 8000000 in
theorem askBodies_any (P : AskOk) (a b : AskV) (A1 A2 D1 D2 : Option Addr) (c1 c2 d1 d2 : Nat) (w : World) (h : AskIn w w.heap.size a A1 c1 A2 c2) (h' : AskIn w w.heap.size b D1 d1 D2 d2) (wa : WideA a) (wb : WideA b) (hg : Han w) :
    Calls Tryd.prog 3 #[.agg (askVals a A1 c1 A2 c2), .agg (askVals b D1 d1 D2 d2)] w fun e w' => e = .returned (.bool true) ∧ Below w.heap.size w w' := by
  have HI : Hid ((Tryd.prog.info? 24).map (·.size) = some 14) := by show _ = _; kernel_rfl
  have HG := Lib.hid hg
  have H1 := Lib.hid h
  have H2 := Lib.hid h'
  have HWa := Lib.hid wa
  have HWb := Lib.hid wb
  clear hg h h' wa wb
  obtain ⟨V, hV⟩ : ∃ V, V = askVals a A1 c1 A2 c2 := ⟨_, rfl⟩
  obtain ⟨U, hU⟩ : ∃ U, U = askVals b D1 d1 D2 d2 := ⟨_, rfl⟩
  have HV : Hid (V = askVals a A1 c1 A2 c2) := hV
  have HU : Hid (U = askVals b D1 d1 D2 d2) := hU
  have HVs : Hid (some V.size = some 14) := by show _ = _; rw [hV]; rfl
  have HUs : Hid (some U.size = some 14) := by show _ = _; rw [hU]; rfl
  rw [← hV, ← hU]
  clear hV hU
  go_enter Tryd.func3, Tryd.ntmps3
  have HRa := Lib.hid (box_row w V 24 (.cells U 24))
  have HRb := Lib.hid (box_row2 w (.cells V 24) U 24)
  go_wp2_with (refine wpList_load_row rfl 24 _ rfl w.heap.size rfl 24 _ (0, 0) _ HRa.out Tryd.underlying24 rfl (by rw [HVs.out]; exact HI.out) ?_)
  have B0 := Lib.hid (below_box w (.cells V 24) (.cells U 24))
  refine (greatA_V HV.out _).mono ?_
  rintro e w1 ⟨rfl, hb⟩
  have B1 := Lib.hid (below_next B0.out hb)
  have HRa1 := Lib.hid (row_below HRa.out hb)
  have HRb1 := Lib.hid (row_below HRb.out hb)
  clear hb HRa HRb B0
  obtain ⟨ga, hga⟩ : ∃ ga, ga = w.heap.size := ⟨_, rfl⟩
  obtain ⟨gb, hgb⟩ : ∃ gb, gb = w.heap.size + 1 := ⟨_, rfl⟩
  rw [← hga] at HRa1
  rw [← hgb] at HRb1
  rw [← hgb, ← hga]
  clear hga hgb
  by_cases ta : greatB a = true
  · go_wp2_with fail
    refine (awake_any P _ (Han.below HG.out B1.out)).mono ?_
    rintro e w2 ⟨rfl, hb⟩
    have B2 := Lib.hid (below_next B1.out hb)
    clear hb
    go_wp2
    go_ret
    exact ⟨rfl, B2.out⟩
  · have ta' : greatB a = false := by simpa using ta
    have HSa := Lib.hid (great_no ta')
    clear ta
    go_wp2_with (refine load_row_on rfl 24 _ rfl gb rfl 24 _ (0, 0) _ HRb1.out Tryd.underlying24 rfl (by rw [HUs.out]; exact HI.out) ?_)
    refine (greatA_V HU.out _).mono ?_
    rintro e w2 ⟨rfl, hb⟩
    have B2 := Lib.hid (below_next B1.out hb)
    have HRa2 := Lib.hid (row_below HRa1.out hb)
    have HRb2 := Lib.hid (row_below HRb1.out hb)
    clear hb HRa1 HRb1 B1
    by_cases tb : greatB b = true
    · go_wp2_with fail
      refine (awake_any P _ (Han.below HG.out B2.out)).mono ?_
      rintro e w3 ⟨rfl, hb⟩
      have B3 := Lib.hid (below_next B2.out hb)
      clear hb
      go_wp2
      go_ret
      exact ⟨rfl, B3.out⟩
    · have tb' : greatB b = false := by simpa using tb
      have HSb := Lib.hid (great_no tb')
      clear tb
      go_wp2_with (refine wpList_load_row rfl 24 _ rfl ga rfl 24 _ (0, 0) _ HRa2.out Tryd.underlying24 rfl (by rw [HVs.out]; exact HI.out) ?_)
      rw [HV.out]
      refine (P.body a A1 c1 A2 c2 _ (H1.out.next B2.out) HSa.out HWa.out).mono ?_
      rw [← HV.out]
      rintro e w3 ⟨X, nx, cx, v, rfl, hb, hq⟩
      have HQ := Lib.hid hq
      have B3 := Lib.hid (below_next B2.out hb)
      have HRa3 := Lib.hid (row_below HRa2.out hb)
      have HRb3 := Lib.hid (row_below HRb2.out hb)
      clear hb hq HRa2 HRb2 B2
      go_wp2_with (refine wpList_load_row rfl 24 _ rfl ga rfl 24 _ (0, 0) _ HRa3.out Tryd.underlying24 rfl (by rw [HVs.out]; exact HI.out) ?_)
      rw [HV.out]
      refine (body_any a A1 A2 c1 c2 _ (H1.out.next B3.out)).mono ?_
      rw [← HV.out]
      rintro e W0 ⟨Y, ny, cy, k, rfl, hb, q1, q2⟩
      obtain ⟨he, L, hL, hnx, hny, hX, hY⟩ := bodies_same HQ.out hb q1 q2
      have HE := Lib.hid he
      have HL := Lib.hid hL
      have HNX := Lib.hid hnx
      have HNY := Lib.hid hny
      have HX := Lib.hid hX
      have HY := Lib.hid hY
      have B4 := Lib.hid (below_next B3.out hb)
      have HRa4 := Lib.hid (row_below HRa3.out hb)
      have HRb4 := Lib.hid (row_below HRb3.out hb)
      clear hb q1 q2 he hL hnx hny hX hY HQ HRa3 HRb3 B3
      have C1 : Hid (∀ W, Below W0.heap.size W0 W → Calls Tryd.prog 10 #[.slice X nx cx, .slice Y ny cy] W fun e w' => e = .returned (.bool true) ∧ Below W.heap.size W w') := fun W hb => sameB_eq X Y cx cy nx ny L L W rfl HNX.out HNY.out HL.out (has_next HX.out hb) (has_next HY.out hb)
      have C2 : Hid (∀ W, Below W0.heap.size W0 W → Calls Tryd.prog 11 #[v] W fun e w' => e = .returned (.int .i64 k) ∧ Below W.heap.size W w') := fun W hb => num_any k v W (Han.below (Han.below HG.out B4.out) hb) (HE.out.next hb)
      have C3 : Hid (∀ W, Below W0.heap.size W0 W → Calls Tryd.prog 12 #[.agg V] W fun e w' => e = .returned (.bool (decide (MayA a))) ∧ Below W.heap.size W w') := fun W hb => by rw [HV.out]; exact P.may a A1 c1 A2 c2 W (H1.out.next (below_next B4.out hb)) HSa.out
      have C4 : Hid (∀ W, Below W0.heap.size W0 W → Calls Tryd.prog 13 #[.agg V] W fun e w' => e = .returned (.bool (decide (MayA a))) ∧ Below W.heap.size W w') := fun W hb => may_V HV.out W
      have C5 : Hid (∀ W, Below W0.heap.size W0 W → Calls Tryd.prog 14 #[.agg V, .agg U] W fun e w' => e = .returned (.bool (sameV a b)) ∧ Below W.heap.size W w') := fun W hb => by rw [HV.out, HU.out]; exact P.same a b A1 c1 A2 c2 D1 d1 D2 d2 W (H1.out.next (below_next B4.out hb)) (H2.out.next (below_next B4.out hb)) HSa.out HSb.out HWa.out HWb.out
      have C6 : Hid (∀ W, Below W0.heap.size W0 W → Calls Tryd.prog 15 #[.agg V, .agg U] W fun e w' => e = .returned (.bool (sameV a b)) ∧ Below W.heap.size W w') := fun W hb => by rw [HV.out, HU.out]; exact sameA_any a b A1 A2 D1 D2 c1 c2 d1 d2 W (H1.out.next (below_next B4.out hb)) (H2.out.next (below_next B4.out hb)) (by have := HSa.out.2.1; omega) (by have := HSa.out.2.2; omega) (by have := HSb.out.2.1; omega) (by have := HSb.out.2.2; omega)
      have C7 : Hid (∀ W, Below W0.heap.size W0 W → Calls Tryd.prog 14 #[.agg V, .agg V] W fun e w' => e = .returned (.bool true) ∧ Below W.heap.size W w') := fun W hb => by
        rw [HV.out, ← sameV_self a]
        exact P.same a a A1 c1 A2 c2 A1 c1 A2 c2 W (H1.out.next (below_next B4.out hb)) (H1.out.next (below_next B4.out hb)) HSa.out HSa.out HWa.out HWa.out
      have C8 : Hid (∀ W, Below W0.heap.size W0 W → Calls Tryd.prog 7 #[] W fun e w' => e = .returned (.bool true) ∧ Below W.heap.size W w') := fun W hb => awake_any P W (Han.below (Han.below HG.out B4.out) hb)
      obtain ⟨v0, v1, v2, v3, v4, v5, v6, v7, v8, v9, v10, v11, v12, v13, hVL⟩ := fourteen (Option.some.inj HVs.out)
      obtain ⟨u0, u1, u2, u3, u4, u5, u6, u7, u8, u9, u10, u11, u12, u13, hUL⟩ := fourteen (Option.some.inj HUs.out)
      rw [hVL] at C3 C4 C5 C6 C7 HRa4
      rw [hUL] at C5 C6 HRb4
      have HF : Hid (∀ W, Below W0.heap.size W0 W → Below W0.heap.size W0 W ∧ W.cell? ⟨ga, 0, none⟩ = some (v0) ∧ W.cell? ⟨ga, 1, none⟩ = some (v1) ∧ W.cell? ⟨ga, 2, none⟩ = some (v2) ∧ W.cell? ⟨ga, 3, none⟩ = some (v3) ∧ W.cell? ⟨ga, 4, none⟩ = some (v4) ∧ W.cell? ⟨ga, 5, none⟩ = some (v5) ∧ W.cell? ⟨ga, 6, none⟩ = some (v6) ∧ W.cell? ⟨ga, 7, none⟩ = some (v7) ∧ W.cell? ⟨ga, 8, none⟩ = some (v8) ∧ W.cell? ⟨ga, 9, none⟩ = some (v9) ∧ W.cell? ⟨ga, 10, none⟩ = some (v10) ∧ W.cell? ⟨ga, 11, none⟩ = some (v11) ∧ W.cell? ⟨ga, 12, none⟩ = some (v12) ∧ W.cell? ⟨ga, 13, none⟩ = some (v13) ∧ W.cell? ⟨gb, 0, none⟩ = some (u0) ∧ W.cell? ⟨gb, 1, none⟩ = some (u1) ∧ W.cell? ⟨gb, 2, none⟩ = some (u2) ∧ W.cell? ⟨gb, 3, none⟩ = some (u3) ∧ W.cell? ⟨gb, 4, none⟩ = some (u4) ∧ W.cell? ⟨gb, 5, none⟩ = some (u5) ∧ W.cell? ⟨gb, 6, none⟩ = some (u6) ∧ W.cell? ⟨gb, 7, none⟩ = some (u7) ∧ W.cell? ⟨gb, 8, none⟩ = some (u8) ∧ W.cell? ⟨gb, 9, none⟩ = some (u9) ∧ W.cell? ⟨gb, 10, none⟩ = some (u10) ∧ W.cell? ⟨gb, 11, none⟩ = some (u11) ∧ W.cell? ⟨gb, 12, none⟩ = some (u12) ∧ W.cell? ⟨gb, 13, none⟩ = some (u13)) := fun W hb => ⟨hb, cell_of_row _ _ 0 _ _ _ (row_below HRa4.out hb), cell_of_row _ _ 1 _ _ _ (row_below HRa4.out hb), cell_of_row _ _ 2 _ _ _ (row_below HRa4.out hb), cell_of_row _ _ 3 _ _ _ (row_below HRa4.out hb), cell_of_row _ _ 4 _ _ _ (row_below HRa4.out hb), cell_of_row _ _ 5 _ _ _ (row_below HRa4.out hb), cell_of_row _ _ 6 _ _ _ (row_below HRa4.out hb), cell_of_row _ _ 7 _ _ _ (row_below HRa4.out hb), cell_of_row _ _ 8 _ _ _ (row_below HRa4.out hb), cell_of_row _ _ 9 _ _ _ (row_below HRa4.out hb), cell_of_row _ _ 10 _ _ _ (row_below HRa4.out hb), cell_of_row _ _ 11 _ _ _ (row_below HRa4.out hb), cell_of_row _ _ 12 _ _ _ (row_below HRa4.out hb), cell_of_row _ _ 13 _ _ _ (row_below HRa4.out hb), cell_of_row _ _ 0 _ _ _ (row_below HRb4.out hb), cell_of_row _ _ 1 _ _ _ (row_below HRb4.out hb), cell_of_row _ _ 2 _ _ _ (row_below HRb4.out hb), cell_of_row _ _ 3 _ _ _ (row_below HRb4.out hb), cell_of_row _ _ 4 _ _ _ (row_below HRb4.out hb), cell_of_row _ _ 5 _ _ _ (row_below HRb4.out hb), cell_of_row _ _ 6 _ _ _ (row_below HRb4.out hb), cell_of_row _ _ 7 _ _ _ (row_below HRb4.out hb), cell_of_row _ _ 8 _ _ _ (row_below HRb4.out hb), cell_of_row _ _ 9 _ _ _ (row_below HRb4.out hb), cell_of_row _ _ 10 _ _ _ (row_below HRb4.out hb), cell_of_row _ _ 11 _ _ _ (row_below HRb4.out hb), cell_of_row _ _ 12 _ _ _ (row_below HRb4.out hb), cell_of_row _ _ 13 _ _ _ (row_below HRb4.out hb)⟩
      obtain ⟨_, p0, p1, p2, p3, p4, p5, p6, p7, p8, p9, p10, p11, p12, p13, r0, r1, r2, r3, r4, r5, r6, r7, r8, r9, r10, r11, r12, r13⟩ := HF.out _ (Below.refl _ _)
      have D0 : Below W0.heap.size W0 W0 := Below.refl _ _
      have D1' : Below W0.heap.size W0 W0.drew := (Below.refl _ _).drew
      obtain ⟨R, hR⟩ : ∃ R, R = decide (MayA a) := ⟨_, rfl⟩
      obtain ⟨T, hT⟩ : ∃ T, T = sameV a b := ⟨_, rfl⟩
      rw [← hR] at C3 C4
      rw [← hT] at C5 C6
      clear hR hT hVL hUL
      go_wp2
      go_region_held3 (fun W => Below W0.heap.size W0 W ∧ W.cell? ⟨ga, 0, none⟩ = some (v0) ∧ W.cell? ⟨ga, 1, none⟩ = some (v1) ∧ W.cell? ⟨ga, 2, none⟩ = some (v2) ∧ W.cell? ⟨ga, 3, none⟩ = some (v3) ∧ W.cell? ⟨ga, 4, none⟩ = some (v4) ∧ W.cell? ⟨ga, 5, none⟩ = some (v5) ∧ W.cell? ⟨ga, 6, none⟩ = some (v6) ∧ W.cell? ⟨ga, 7, none⟩ = some (v7) ∧ W.cell? ⟨ga, 8, none⟩ = some (v8) ∧ W.cell? ⟨ga, 9, none⟩ = some (v9) ∧ W.cell? ⟨ga, 10, none⟩ = some (v10) ∧ W.cell? ⟨ga, 11, none⟩ = some (v11) ∧ W.cell? ⟨ga, 12, none⟩ = some (v12) ∧ W.cell? ⟨ga, 13, none⟩ = some (v13) ∧ W.cell? ⟨gb, 0, none⟩ = some (u0) ∧ W.cell? ⟨gb, 1, none⟩ = some (u1) ∧ W.cell? ⟨gb, 2, none⟩ = some (u2) ∧ W.cell? ⟨gb, 3, none⟩ = some (u3) ∧ W.cell? ⟨gb, 4, none⟩ = some (u4) ∧ W.cell? ⟨gb, 5, none⟩ = some (u5) ∧ W.cell? ⟨gb, 6, none⟩ = some (u6) ∧ W.cell? ⟨gb, 7, none⟩ = some (u7) ∧ W.cell? ⟨gb, 8, none⟩ = some (u8) ∧ W.cell? ⟨gb, 9, none⟩ = some (u9) ∧ W.cell? ⟨gb, 10, none⟩ = some (u10) ∧ W.cell? ⟨gb, 11, none⟩ = some (u11) ∧ W.cell? ⟨gb, 12, none⟩ = some (u12) ∧ W.cell? ⟨gb, 13, none⟩ = some (u13))
        (first
          | (refine HF.out _ ?_; first | assumption | exact Below.drew (by assumption)))
        (first
          | (go_at_call 10; (with_reducible refine (C1.out _ (by assumption)).mono ?_); rintro e wk ⟨rfl, hb⟩; have hbk := below_next (w0 := W0) (by assumption) hb)
          | (go_at_call 11; (with_reducible refine (C2.out _ (by assumption)).mono ?_); rintro e wk ⟨rfl, hb⟩; have hbk := below_next (w0 := W0) (by assumption) hb)
          | (go_at_call 12; (with_reducible refine (C3.out _ (by assumption)).mono ?_); rintro e wk ⟨rfl, hb⟩; have hbk := below_next (w0 := W0) (by assumption) hb)
          | (go_at_call 13; (with_reducible refine (C4.out _ (by assumption)).mono ?_); rintro e wk ⟨rfl, hb⟩; have hbk := below_next (w0 := W0) (by assumption) hb)
          | (go_at_call 14; (with_reducible refine (C5.out _ (by assumption)).mono ?_); rintro e wk ⟨rfl, hb⟩; have hbk := below_next (w0 := W0) (by assumption) hb)
          | (go_at_call 15; (with_reducible refine (C6.out _ (by assumption)).mono ?_); rintro e wk ⟨rfl, hb⟩; have hbk := below_next (w0 := W0) (by assumption) hb)
          | (go_at_call 14; (with_reducible refine (C7.out _ (by assumption)).mono ?_); rintro e wk ⟨rfl, hb⟩; have hbk := below_next (w0 := W0) (by assumption) hb)
          | (go_at_call 7; (with_reducible refine (C8.out _ (by assumption)).mono ?_); rintro e wk ⟨rfl, hb⟩; have hbk := below_next (w0 := W0) (by assumption) hb))
      all_goals
        go_wp2
        go_ret
        exact ⟨rfl, below_next B4.out (by assumption)⟩
end Go.Proofs.YtidpihpddkfhgaaDoor
