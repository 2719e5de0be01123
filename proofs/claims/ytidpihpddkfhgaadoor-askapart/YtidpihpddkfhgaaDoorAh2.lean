/- Contract, unfinished: bytes that are read as a request, by the document's own code: all but region 9 (two appends and a whole store in drawn order) stands. -/
import Derived.Test.YtidpihpddkfhgaaDoorAh
namespace Go.Proofs.YtidpihpddkfhgaaDoor
open Go.RowKit Slices Go.Proofs.YtidpihpddkfhgaaDoor.Bit

theorem own_capA {t : TypeId} {w : World} {B n c : Nat} {A : Option Addr} {xs : List Value} (h : w.ownsRow B t 1 (.slice A n c) n xs) : n ≤ c := by
  rcases h.2 with ⟨hv, h0⟩ | ⟨g, c', cur, hv, _, _, hc, _⟩
  · omega
  · injection hv with h1 h2 h3
    omega
/-- the answer, where all that it tells is the call's own -/
theorem read_done {w w7 W : World} {l : List Int} {b : AskV} {N M c1 c2 cx cy : Nat} {A1 A2 X Y : Option Addr} {Z : Array Value} (hi : IsAsk l b) (hx : l.take M = bodyOf l) (hy : l.drop M = sigOf l) (hN : N = l.length) (hM : N = M + 2420) (hb : N ≤ 6000)
    (_h7 : w.heap.size < w7.heap.size) (hz : w7.heap[w.heap.size]? = some (.cells Z 24 (0, 0)))
    (h1 : w7.ownsRow w.heap.size 5 1 (.slice A1 b.bytes.length c1) b.bytes.length (ints .u8 b.bytes)) (h2 : w7.ownsRow w.heap.size 5 1 (.slice A2 b.token.length c2) b.token.length (ints .u8 b.token))
    (hk : Kp w w7 W) (hX : W.ownsRow w7.heap.size 5 1 (.slice X M cx) M (ints .u8 (l.take M))) (hY : W.ownsRow w7.heap.size 5 1 (.slice Y (N - M) cy) (N - M) (ints .u8 (l.drop M))) :
    ReadRef l w (.returned (.tuple #[.agg (askVals b A1 c1 A2 c2), .slice X M cx, .slice Y (N - M) cy, .int .i64 0])) W := by
  have l1 : (l.take M).length = M := by rw [List.length_take]; omega
  have l2 : (l.drop M).length = N - M := by rw [List.length_drop]; omega
  have o1 := hk.own h1 ⟨Z, hz⟩
  have o2 := hk.own h2 ⟨Z, hz⟩
  refine ⟨b, l.take M, l.drop M, 0, A1, c1, A2, c2, X, cx, Y, cy, .inr (.inr ⟨by omega, by omega, hi, hx, hy, rfl⟩), by rw [l1, l2], ⟨own_read o1, own_read o2, fun e => own_none o1 e, fun e => own_none o2 e, own_capA o1, own_capA o2⟩, own_readn l1.symm hX, own_readn l2.symm hY, hk.below⟩
theorem grow_row {W W' : World} {r : Nat} {o : Obj} (h : W.heap[r]? = some o) (hg : W.grownBy W' none) : W'.heap[r]? = some o := (hg.block r (Array.getElem?_eq_some_iff.1 h).1 (by simp)).trans h
theorem put14_row {W : World} {r : Nat} {t : TypeId} {z0 z1 z2 z3 z4 z5 z6 z7 z8 z9 z10 z11 z12 z13 : Value} (h : W.heap[r]? = some (.cells #[z0, z1, z2, z3, z4, z5, z6, z7, z8, z9, z10, z11, z12, z13] t (0, 0))) (v0 v1 v2 v3 v4 v5 v6 v7 v8 v9 v10 v11 v12 v13 : Value) :
    ((((((((((((((W.setCell ⟨r, 0, none⟩ (v0)).setCell ⟨r, 1, none⟩ (v1)).setCell ⟨r, 2, none⟩ (v2)).setCell ⟨r, 3, none⟩ (v3)).setCell ⟨r, 4, none⟩ (v4)).setCell ⟨r, 5, none⟩ (v5)).setCell ⟨r, 6, none⟩ (v6)).setCell ⟨r, 7, none⟩ (v7)).setCell ⟨r, 8, none⟩ (v8)).setCell ⟨r, 9, none⟩ (v9)).setCell ⟨r, 10, none⟩ (v10)).setCell ⟨r, 11, none⟩ (v11)).setCell ⟨r, 12, none⟩ (v12)).setCell ⟨r, 13, none⟩ (v13)).heap[r]? = some (.cells #[v0, v1, v2, v3, v4, v5, v6, v7, v8, v9, v10, v11, v12, v13] t (0, 0)) := by
  have h0 := heap_setCell_same _ r 0 _ _ v0 h
  have h1 := heap_setCell_same _ r 1 _ _ v1 h0
  have h2 := heap_setCell_same _ r 2 _ _ v2 h1
  have h3 := heap_setCell_same _ r 3 _ _ v3 h2
  have h4 := heap_setCell_same _ r 4 _ _ v4 h3
  have h5 := heap_setCell_same _ r 5 _ _ v5 h4
  have h6 := heap_setCell_same _ r 6 _ _ v6 h5
  have h7 := heap_setCell_same _ r 7 _ _ v7 h6
  have h8 := heap_setCell_same _ r 8 _ _ v8 h7
  have h9 := heap_setCell_same _ r 9 _ _ v9 h8
  have h10 := heap_setCell_same _ r 10 _ _ v10 h9
  have h11 := heap_setCell_same _ r 11 _ _ v11 h10
  have h12 := heap_setCell_same _ r 12 _ _ v12 h11
  have h13 := heap_setCell_same _ r 13 _ _ v13 h12
  refine h13.trans (congrArg (fun c => some (Obj.cells c t (0, 0))) ?_)
  apply Array.ext'
  simp only [Array.toList_setIfInBounds]
  rfl
theorem Kp.cell {w w7 W : World} (h : Kp w w7 W) (k : Nat) (v : Value) : Kp w w7 (W.setCell ⟨w.heap.size, k, none⟩ v) := by
  obtain ⟨Z, hz, hr⟩ := h.res
  exact ⟨fun i hi hne => (Below.heap_setCell W ⟨w.heap.size, k, none⟩ v i hne).trans (h.same i hi hne), ⟨_, by rw [Array.size_setIfInBounds]; exact hz, heap_setCell_same W w.heap.size k _ _ v hr⟩, by have := h.size; simp [World.setCell]; exact this, h.below.setCell (Nat.le_refl _) _⟩
theorem own_grow {W W' : World} {B n c : Nat} {A : Option Addr} {xs : List Value} (h : W.ownsRow B 5 1 (.slice A n c) n xs) (hg : W.grownBy W' none) : W'.ownsRow B 5 1 (.slice A n c) n xs := h.kept hg (own_none_row h)
theorem own_cellr {W : World} {B n c r : Nat} {A : Option Addr} {xs : List Value} (h : W.ownsRow B 5 1 (.slice A n c) n xs) (hr : r < B) (k : Nat) (v : Value) : (W.setCell ⟨r, k, none⟩ v).ownsRow B 5 1 (.slice A n c) n xs := h.kept (grown_cell W r k v) (own_ne_old h hr)
set_option maxRecDepth 100000 in
set_option maxHeartbeats 4000000 in
theorem refRead_long (a0 : Addr) (c N M : Nat) (l : List Int) (w : World) (hN : N = l.length) (hM : N = M + 2420) (hb : N ≤ 6000) (hc : N ≤ c) (hh : Has .u8 w w.heap.size (some a0) l) (hf : Fit 8 l) :
    Calls Tryd.prog 20 #[.slice (some a0) N c] w (ReadRef l w) := by
  have HI : Hid ((Tryd.prog.info? 24).map (·.size) = some 14) := by show _ = _; kernel_rfl
  have H := Lib.hid hh
  have HF := Lib.hid hf
  have HN := Lib.hid hN
  have HM := Lib.hid hM
  have m0 : (N : Int) - 2420 = (M : Int) := by omega
  have m1 : 2420 ≤ N := by omega
  have m2 : (M : Int) ≤ (N : Int) := by omega
  have m3 : (M : Int) ≤ (c : Int) := by omega
  have m4 : (N : Int) ≤ (c : Int) := by omega
  clear hh hf hN hM
  go_enter Tryd.func20, Tryd.ntmps20
  go_wp2_with fail
  refine (refSizes_1 _).mono ?_
  rintro e w1 ⟨rfl, hb1⟩
  have HZ := Lib.hid (row_below (heap_alloc_new w _) hb1)
  have LW := Lib.hid (below_next (below_new w _) hb1)
  clear hb1
  go_wp2
  go_quiet (fail)
  go_wp2_with fail
  have HZ2 : Hid ((w1.drewN nq).heap[w.heap.size]? = _) := HZ.out
  have LW2 := Lib.hid (below_drewN LW.out nq)
  have HS2 : Hid ((w1.drewN nq).heap.size = w1.heap.size) := rfl
  obtain ⟨g, hg⟩ : ∃ g, g = w1.heap.size := ⟨_, rfl⟩
  rw [← hg] at HS2 ⊢
  clear HZ LW hg
  generalize w1.drewN nq = W1 at HZ2 LW2 HS2 ⊢
  have HT : Hid ((l.take M).length = M) := by show _ = _; rw [List.length_take, ← HN.out]; omega
  have R0 : Hid (RdO 0 g (some (l.take M)) (W1.alloc (.cells #[.slice (some a0) M c, .bool false] 69))) := by
    refine ⟨⟨some a0, c, ?_, ?_, by rw [HT.out]; omega, (fun e => by cases e), fun _ _ => Nat.zero_le _⟩, fun i hi => ?_, by rw [HT.out]; omega⟩
    · rw [HT.out, ← HS2.out]
      exact heap_alloc_new W1 _
    · rw [← HS2.out]
      exact ((has_next H.out LW2.out).take M).below ((Below.refl _ _).alloc (Nat.le_refl _) _)
    · rw [HT.out] at hi
      rw [getD_take l M i hi]
      exact HF.out i (by rw [← HN.out]; omega)
  have HZ3 := Lib.hid (row_below HZ2.out (below_new W1 (.cells #[.slice (some a0) M c, .bool false] 69)))
  have LW3 := Lib.hid (below_next LW2.out (below_new W1 (.cells #[.slice (some a0) M c, .bool false] 69)))
  have GW : Hid (w.heap.size < g) := by
    show w.heap.size < g
    have := (Array.getElem?_eq_some_iff.1 HZ2.out).1
    rw [HS2.out] at this
    exact this
  have GL : Hid (∀ w3 : World, (W1.alloc (.cells #[.slice (some a0) M c, .bool false] 69)).grownBy w3 (some g) → Below w.heap.size w w3) := fun w3 hg => LW3.out.grown hg LW3.out.size (fun q hq => by injection hq with hq; have := GW.out; omega)
  clear HZ2 LW2
  generalize W1.alloc (.cells #[.slice (some a0) M c, .bool false] 69) = W2 at R0 HZ3 LW3 GL ⊢
  refine (take_any 0 g (some (l.take M)) 0 1099511627776 W2 R0.out).mono ?_
  rintro e w3 ⟨A1, c1, A2, c2, m, rfl, ho1, ho2, hl1, hl2, hr, hg⟩
  have HTK : Hid ((takeA (List.replicate 11 (0, 1099511627776)) 300 2000 100 (some (l.take M))).2 = some [] → l.take M = laidA (takeA (List.replicate 11 (0, 1099511627776)) 300 2000 100 (some (l.take M))).1) := fun h => takeA_some rfl (fun i hi => by
    rw [HT.out] at hi
    rw [getD_take l M i hi]
    exact HF.out i (by rw [← HN.out]; omega)) h
  have HTL : Hid (∀ b, IsAsk l b → takeA (List.replicate 11 (0, 1099511627776)) 300 2000 100 (some (l.take M)) = (b, some [])) := fun b hb => by
    have e : l.take M = laidA b := by rw [← hb.2]; unfold bodyOf; rw [← HN.out, HM.out, Nat.add_sub_cancel]
    rw [e]
    exact may_takes hb.1
  obtain ⟨b, hbb⟩ : ∃ b, b = (takeA (List.replicate 11 (0, 1099511627776)) 300 2000 100 (some (l.take M))).1 := ⟨_, rfl⟩
  obtain ⟨s', hs'⟩ : ∃ s', s' = (takeA (List.replicate 11 (0, 1099511627776)) 300 2000 100 (some (l.take M))).2 := ⟨_, rfl⟩
  have HTL2 : Hid (∀ b', IsAsk l b' → b = b' ∧ s' = some []) := fun b' hb' => by rw [hbb, hs', HTL.out b' hb']; exact ⟨rfl, rfl⟩
  rw [← hbb] at ho1 ho2
  rw [← hbb, ← hs'] at HTK
  rw [← hs'] at hr
  rw [← hbb]
  have LW4 := Lib.hid (GL.out w3 hg)
  have HZ4 : Hid (w3.heap[w.heap.size]? = _) := (hg.block _ (Array.getElem?_eq_some_iff.1 HZ3.out).1 (fun e => by injection e with e; have := GW.out; omega)).trans HZ3.out
  have R4 := Lib.hid hr
  have HO1 := Lib.hid (own_down ho1 LW3.out.size)
  have HO2 := Lib.hid (own_down ho2 LW3.out.size)
  clear ho1 ho2 hl1 hl2 hr hg HTL hbb hs' R0 HZ3 LW3 GL
  have HSV : Hid (some ((askVals b A1 c1 A2 c2).size) = some 14) := rfl
  have HOV := Lib.hid (vals_one b A1 c1 A2 c2)
  obtain ⟨V, hV⟩ : ∃ V, V = askVals b A1 c1 A2 c2 := ⟨_, rfl⟩
  rw [← hV] at HSV HOV ⊢
  have HV := Lib.hid hV
  have hv14 : V.size = 14 := by rw [hV]; rfl
  clear hV
  go_wp2_with (refine wpList_store_row rfl 24 _ _ rfl w3.heap.size V rfl rfl 24 _ (heap_alloc_new w3 _) (by rw [HSV.out]; exact HI.out) (by rw [hv14]; rfl) HOV.out ?_)
  have HG5 : Hid (w3.grownBy ((w3.alloc (.cells zeroV 24)).setRow w3.heap.size V) none) := grown_new_row w3 _ _ V
  have HV5 : Hid (((w3.alloc (.cells zeroV 24)).setRow w3.heap.size V).heap[w3.heap.size]? = some (.cells V 24 (0, 0))) := setRow_heap _ _ _ _ _ _ (heap_alloc_new w3 _)
  have HQ5 : Hid (w3.heap.size < ((w3.alloc (.cells zeroV 24)).setRow w3.heap.size V).heap.size) := by show _ < _; rw [size_setRow2]; simp
  unfold zeroV at HG5 HV5 HQ5
  generalize (w3.alloc (.cells #[.int .i64 0, .int .i64 0, .int .i64 0, .int .i64 0, .int .i64 0, .int .i64 0, .int .i64 0, .int .i64 0, .int .i64 0, .int .i64 0, .int .i64 0, .string { data := #[] }, .slice none 0 0, .slice none 0 0] 24)).setRow w3.heap.size V = W5 at HG5 HV5 HQ5 ⊢
  obtain ⟨g5, hg5⟩ : ∃ g5, g5 = w3.heap.size := ⟨_, rfl⟩
  have R5 := Lib.hid (R4.out.far (fun i hi => HG5.out.block i (by have := R4.out.lt; omega) (by simp)))
  have LW5 := Lib.hid (LW4.out.grown HG5.out LW4.out.size (fun q hq => by cases hq))
  have HZ5 : Hid (W5.heap[w.heap.size]? = _) := (HG5.out.block _ (Array.getElem?_eq_some_iff.1 HZ4.out).1 (by simp)).trans HZ4.out
  have HO15 := Lib.hid (HO1.out.kept HG5.out (own_none_row HO1.out))
  have HO25 := Lib.hid (HO2.out.kept HG5.out (own_none_row HO2.out))
  rw [← hg5] at HV5 HQ5 ⊢
  have GN : Hid (w.heap.size < g5) := by show _ < _; rw [hg5]; exact (Array.getElem?_eq_some_iff.1 HZ4.out).1
  clear R4 LW4 HZ4 HO1 HO2 HG5 hg5
  have HOZ : Hid ((askVals zeroA none 0 none 0).all (·.oneCell') = true) := vals_one _ _ _ _ _
  by_cases hE : s' = some []
  · subst hE
    have HE := Lib.hid hv14
    refine (refEndO 0 g (some []) W5 R5.out).mono ?_
    rintro e W6 ⟨rfl, rfl⟩
    by_cases hm : MayA b
    · have HMM := Lib.hid hm
      have HMD : Hid (decide (MayA b) = true) := decide_eq_true hm
      clear hm
      go_wp2_with (refine load_row_on rfl 24 _ rfl g5 rfl 24 V (0, 0) _ HV5.out Tryd.underlying24 rfl (by rw [HSV.out]; exact HI.out) ?_)
      refine (may_V HV.out _).mono ?_
      rw [HMD.out]
      rintro e w7 ⟨rfl, hb7⟩
      have HZ7 := Lib.hid (row_below HZ5.out hb7)
      have LW7 := Lib.hid (below_next LW5.out hb7)
      have HV7 := Lib.hid (row_below HV5.out hb7)
      have HO17 := Lib.hid (own_next HO15.out hb7)
      have HO27 := Lib.hid (own_next HO25.out hb7)
      have H7 : Hid (w.heap.size < w7.heap.size) := (Array.getElem?_eq_some_iff.1 HZ7.out).1
      have G5N : Hid (g5 ≠ w.heap.size) := fun e => by have := GN.out; omega
      have HIV : Hid ((Tryd.prog.info? 24).map (·.size) = some V.size) := by show _ = _; rw [HSV.out]; exact HI.out
      have HHb : Hid (Has .u8 w w.heap.size (some a0) (l.take M)) := H.out.take M
      have HHs : Hid (Has .u8 w w.heap.size (some (a0.add M)) (l.drop M)) := has_dropN H.out M
      have HTs : Hid ((l.drop M).length = N - M) := by show _ = _; rw [List.length_drop, ← HN.out]
      have hK0 : Kp w w7 w7.drew := (⟨fun _ _ _ => rfl, ⟨_, rfl, HZ7.out⟩, Nat.le_refl _, LW7.out⟩ : Kp w w7 w7).drew
      obtain ⟨i0, hi0, hz0, hz1, hz2⟩ := info_parts Tryd.info5
      have HFS : Hid (∀ W, Kp w w7 W → Kp w w7 W ∧ W.cell? ⟨g5, 0, none⟩ = some (.int .i64 b.who) ∧ W.cell? ⟨g5, 1, none⟩ = some (.int .i64 b.nonce) ∧ W.cell? ⟨g5, 2, none⟩ = some (.int .i64 b.op) ∧ W.cell? ⟨g5, 3, none⟩ = some (.int .i64 b.tenant) ∧ W.cell? ⟨g5, 4, none⟩ = some (.int .i64 b.key) ∧ W.cell? ⟨g5, 5, none⟩ = some (.int .i64 b.version) ∧ W.cell? ⟨g5, 6, none⟩ = some (.int .i64 b.set) ∧ W.cell? ⟨g5, 7, none⟩ = some (.int .i64 b.grant) ∧ W.cell? ⟨g5, 8, none⟩ = some (.int .i64 b.to) ∧ W.cell? ⟨g5, 9, none⟩ = some (.int .i64 b.ops) ∧ W.cell? ⟨g5, 10, none⟩ = some (.int .i64 b.till) ∧ W.cell? ⟨g5, 11, none⟩ = some (.string b.name) ∧ W.cell? ⟨g5, 12, none⟩ = some (.slice A1 b.bytes.length c1) ∧ W.cell? ⟨g5, 13, none⟩ = some (.slice A2 b.token.length c2)) := fun W hk => by
        have hr := hk.row HV7.out G5N.out
        rw [HV.out] at hr
        exact ⟨hk, cell_of_row _ _ 0 _ _ _ hr, cell_of_row _ _ 1 _ _ _ hr, cell_of_row _ _ 2 _ _ _ hr, cell_of_row _ _ 3 _ _ _ hr, cell_of_row _ _ 4 _ _ _ hr, cell_of_row _ _ 5 _ _ _ hr, cell_of_row _ _ 6 _ _ _ hr, cell_of_row _ _ 7 _ _ _ hr, cell_of_row _ _ 8 _ _ _ hr, cell_of_row _ _ 9 _ _ _ hr, cell_of_row _ _ 10 _ _ _ hr, cell_of_row _ _ 11 _ _ _ hr, cell_of_row _ _ 12 _ _ _ hr, cell_of_row _ _ 13 _ _ _ hr⟩
      have HOV2 : Hid ((askVals b A1 c1 A2 c2).all (·.oneCell') = true) := vals_one _ _ _ _ _
      obtain ⟨_, q0, q1, q2, q3, q4, q5, q6, q7, q8, q9, q10, q11, q12, q13⟩ := HFS.out _ ⟨fun _ _ _ => rfl, ⟨_, rfl, HZ7.out⟩, Nat.le_refl _, LW7.out⟩
      have hk7 : Kp w w7 w7 := ⟨fun _ _ _ => rfl, ⟨_, rfl, HZ7.out⟩, Nat.le_refl _, LW7.out⟩
      have HZF : Hid (∀ W : World, W.heap[w.heap.size]? = some (.cells #[.int .i64 0, .int .i64 0, .int .i64 0, .int .i64 0, .int .i64 0, .int .i64 0, .int .i64 0, .int .i64 0, .int .i64 0, .int .i64 0, .int .i64 0, .string { data := #[] }, .slice none 0 0, .slice none 0 0] 24 (0, 0)) → W.cell? ⟨w.heap.size, 0, none⟩ = some (.int .i64 0) ∧ W.cell? ⟨w.heap.size, 1, none⟩ = some (.int .i64 0) ∧ W.cell? ⟨w.heap.size, 2, none⟩ = some (.int .i64 0) ∧ W.cell? ⟨w.heap.size, 3, none⟩ = some (.int .i64 0) ∧ W.cell? ⟨w.heap.size, 4, none⟩ = some (.int .i64 0) ∧ W.cell? ⟨w.heap.size, 5, none⟩ = some (.int .i64 0) ∧ W.cell? ⟨w.heap.size, 6, none⟩ = some (.int .i64 0) ∧ W.cell? ⟨w.heap.size, 7, none⟩ = some (.int .i64 0) ∧ W.cell? ⟨w.heap.size, 8, none⟩ = some (.int .i64 0) ∧ W.cell? ⟨w.heap.size, 9, none⟩ = some (.int .i64 0) ∧ W.cell? ⟨w.heap.size, 10, none⟩ = some (.int .i64 0) ∧ W.cell? ⟨w.heap.size, 11, none⟩ = some (.string { data := #[] }) ∧ W.cell? ⟨w.heap.size, 12, none⟩ = some (.slice none 0 0) ∧ W.cell? ⟨w.heap.size, 13, none⟩ = some (.slice none 0 0) ∧ W.frozen? ⟨w.heap.size, 0, none⟩ = false ∧ W.frozen? ⟨w.heap.size, 1, none⟩ = false ∧ W.frozen? ⟨w.heap.size, 2, none⟩ = false ∧ W.frozen? ⟨w.heap.size, 3, none⟩ = false ∧ W.frozen? ⟨w.heap.size, 4, none⟩ = false ∧ W.frozen? ⟨w.heap.size, 5, none⟩ = false ∧ W.frozen? ⟨w.heap.size, 6, none⟩ = false ∧ W.frozen? ⟨w.heap.size, 7, none⟩ = false ∧ W.frozen? ⟨w.heap.size, 8, none⟩ = false ∧ W.frozen? ⟨w.heap.size, 9, none⟩ = false ∧ W.frozen? ⟨w.heap.size, 10, none⟩ = false ∧ W.frozen? ⟨w.heap.size, 11, none⟩ = false ∧ W.frozen? ⟨w.heap.size, 12, none⟩ = false ∧ W.frozen? ⟨w.heap.size, 13, none⟩ = false) := fun W hr =>
        ⟨cell_of_row _ _ 0 _ _ _ hr, cell_of_row _ _ 1 _ _ _ hr, cell_of_row _ _ 2 _ _ _ hr, cell_of_row _ _ 3 _ _ _ hr, cell_of_row _ _ 4 _ _ _ hr, cell_of_row _ _ 5 _ _ _ hr, cell_of_row _ _ 6 _ _ _ hr, cell_of_row _ _ 7 _ _ _ hr, cell_of_row _ _ 8 _ _ _ hr, cell_of_row _ _ 9 _ _ _ hr, cell_of_row _ _ 10 _ _ _ hr, cell_of_row _ _ 11 _ _ _ hr, cell_of_row _ _ 12 _ _ _ hr, cell_of_row _ _ 13 _ _ _ hr, frozen_of_row _ _ 0 _ _ hr, frozen_of_row _ _ 1 _ _ hr, frozen_of_row _ _ 2 _ _ hr, frozen_of_row _ _ 3 _ _ hr, frozen_of_row _ _ 4 _ _ hr, frozen_of_row _ _ 5 _ _ hr, frozen_of_row _ _ 6 _ _ hr, frozen_of_row _ _ 7 _ _ hr, frozen_of_row _ _ 8 _ _ hr, frozen_of_row _ _ 9 _ _ hr, frozen_of_row _ _ 10 _ _ hr, frozen_of_row _ _ 11 _ _ hr, frozen_of_row _ _ 12 _ _ hr, frozen_of_row _ _ 13 _ _ hr⟩
      have hzr : w7.heap[w.heap.size]? = some (.cells #[.int .i64 0, .int .i64 0, .int .i64 0, .int .i64 0, .int .i64 0, .int .i64 0, .int .i64 0, .int .i64 0, .int .i64 0, .int .i64 0, .int .i64 0, .string { data := #[] }, .slice none 0 0, .slice none 0 0] 24 (0, 0)) := HZ7.out
      have hzrd : w7.drew.heap[w.heap.size]? = some (.cells #[.int .i64 0, .int .i64 0, .int .i64 0, .int .i64 0, .int .i64 0, .int .i64 0, .int .i64 0, .int .i64 0, .int .i64 0, .int .i64 0, .int .i64 0, .string { data := #[] }, .slice none 0 0, .slice none 0 0] 24 (0, 0)) := HZ7.out
      obtain ⟨zc0, zc1, zc2, zc3, zc4, zc5, zc6, zc7, zc8, zc9, zc10, zc11, zc12, zc13, zf0, zf1, zf2, zf3, zf4, zf5, zf6, zf7, zf8, zf9, zf10, zf11, zf12, zf13⟩ := HZF.out _ hzr
      clear hb7 HZ5 LW5 HV5 HO15 HO25 HE
      go_wp2
      go_region_held3 (fun W => Kp w w7 W ∧ W.cell? ⟨g5, 0, none⟩ = some (.int .i64 b.who) ∧ W.cell? ⟨g5, 1, none⟩ = some (.int .i64 b.nonce) ∧ W.cell? ⟨g5, 2, none⟩ = some (.int .i64 b.op) ∧ W.cell? ⟨g5, 3, none⟩ = some (.int .i64 b.tenant) ∧ W.cell? ⟨g5, 4, none⟩ = some (.int .i64 b.key) ∧ W.cell? ⟨g5, 5, none⟩ = some (.int .i64 b.version) ∧ W.cell? ⟨g5, 6, none⟩ = some (.int .i64 b.set) ∧ W.cell? ⟨g5, 7, none⟩ = some (.int .i64 b.grant) ∧ W.cell? ⟨g5, 8, none⟩ = some (.int .i64 b.to) ∧ W.cell? ⟨g5, 9, none⟩ = some (.int .i64 b.ops) ∧ W.cell? ⟨g5, 10, none⟩ = some (.int .i64 b.till) ∧ W.cell? ⟨g5, 11, none⟩ = some (.string b.name) ∧ W.cell? ⟨g5, 12, none⟩ = some (.slice A1 b.bytes.length c1) ∧ W.cell? ⟨g5, 13, none⟩ = some (.slice A2 b.token.length c2))
        (first
          | (refine HFS.out _ (by repeat (first | (with_reducible assumption) | (with_reducible refine Kp.cell ?_ _ _) | (with_reducible refine Kp.drew ?_)))))
        (first
          | (refine step_append_any _ rfl _ (.tmp 55) _ rfl w7.heap.size 5 i0 _ 1 1 Tryd.underlying22 hi0 hz0 hz1 hz2 rfl (by decide) _ 0 [] rfl (World.ownsRow_nil _ _ _ _) (some a0) (M) (c) (ints .u8 (l.take M)) rfl (by rw [ints_length, HT.out, Nat.mul_one]) (fun h => by cases h) (Kp.has (w := w) (w7 := w7) (by repeat (first | (with_reducible assumption) | (with_reducible refine Kp.cell ?_ _ _) | (with_reducible refine Kp.drew ?_))) LW7.out HHb.out).cells (ints_one _ _) (by unfold maxLen; omega) (by omega) (Kp.size (w := w) (w7 := w7) (by repeat (first | (with_reducible assumption) | (with_reducible refine Kp.cell ?_ _ _) | (with_reducible refine Kp.drew ?_)))) ?_; intro v8 w8 hown8 hg80; have hg8 : World.grownBy _ w8 none := hg80; clear hg80; have hk8 := Kp.grow (w := w) (w7 := w7) (by repeat (first | (with_reducible assumption) | (with_reducible refine Kp.cell ?_ _ _) | (with_reducible refine Kp.drew ?_))) hg8 H7.out; (try (have hzr' := grow_row (by with_reducible assumption) hg8; obtain ⟨zc0, zc1, zc2, zc3, zc4, zc5, zc6, zc7, zc8, zc9, zc10, zc11, zc12, zc13, zf0, zf1, zf2, zf3, zf4, zf5, zf6, zf7, zf8, zf9, zf10, zf11, zf12, zf13⟩ := HZF.out _ hzr')))
          | (refine step_append_any _ rfl _ (.tmp 57) _ rfl w7.heap.size 5 i0 _ 1 1 Tryd.underlying22 hi0 hz0 hz1 hz2 rfl (by decide) _ 0 [] rfl (World.ownsRow_nil _ _ _ _) (some (a0.add M)) (N - M) (c - M) (ints .u8 (l.drop M)) rfl (by rw [ints_length, HTs.out, Nat.mul_one]) (fun h => by cases h) (Kp.has (w := w) (w7 := w7) (by repeat (first | (with_reducible assumption) | (with_reducible refine Kp.cell ?_ _ _) | (with_reducible refine Kp.drew ?_))) LW7.out HHs.out).cells (ints_one _ _) (by unfold maxLen; omega) (by omega) (Kp.size (w := w) (w7 := w7) (by repeat (first | (with_reducible assumption) | (with_reducible refine Kp.cell ?_ _ _) | (with_reducible refine Kp.drew ?_)))) ?_; intro v9 w9 hown9 hg90; have hg9 : World.grownBy _ w9 none := hg90; clear hg90; have hk9 := Kp.grow (w := w) (w7 := w7) (by repeat (first | (with_reducible assumption) | (with_reducible refine Kp.cell ?_ _ _) | (with_reducible refine Kp.drew ?_))) hg9 H7.out; (try (have hzr' := grow_row (by with_reducible assumption) hg9; obtain ⟨zc0, zc1, zc2, zc3, zc4, zc5, zc6, zc7, zc8, zc9, zc10, zc11, zc12, zc13, zf0, zf1, zf2, zf3, zf4, zf5, zf6, zf7, zf8, zf9, zf10, zf11, zf12, zf13⟩ := HZF.out _ hzr'))))
      rw [Nat.zero_add, List.nil_append] at hown8 hown9
      obtain ⟨X8, c8, rfl⟩ := own_slice hown8
      obtain ⟨Y9, c9, rfl⟩ := own_slice hown9
      have HBd : Hid (l.take M = bodyOf l) := by show _ = bodyOf l; unfold bodyOf; rw [← HN.out, HM.out, Nat.add_sub_cancel]
      have HSg : Hid (l.drop M = sigOf l) := by show _ = sigOf l; unfold sigOf; rw [← HN.out, HM.out, Nat.add_sub_cancel]
      have HIs : Hid (IsAsk l b) := ⟨HMM.out, by rw [← HBd.out]; exact HTK.out (by first | trivial | rfl)⟩
      go_wp2
      refine bodyPost_ret (v := .tuple #[.agg (askVals b A1 c1 A2 c2), .slice X8 M c8, .slice Y9 (N - M) c9, .int .i64 0]) ?_ rfl ?_
      · refine Eq.trans (results_cell4 (p := 2) (a := 3) (b := 4) (c := 5) (ty := 24) ?h _ _ w.heap.size 24 (askVals b A1 c1 A2 c2) (0, 0) _ ?hp ?hrow Tryd.underlying24 rfl HI.out) rfl
        case h => rfl
        case hp => rfl
        case hrow => exact put14_row (by with_reducible assumption) _ _ _ _ _ _ _ _ _ _ _ _ _ _
      · refine read_done (X := X8) (Y := Y9) (b := b) (N := N) (M := M) HIs.out HBd.out HSg.out HN.out HM.out hb H7.out HZ7.out HO17.out HO27.out (by repeat (first | (with_reducible assumption) | (with_reducible refine Kp.cell ?_ _ _) | (with_reducible refine Kp.drew ?_) | (with_reducible refine Kp.grow ?_ (by with_reducible assumption) H7.out))) (by repeat (first | (with_reducible assumption) | (with_reducible refine own_cellr ?_ H7.out _ _) | (with_reducible refine own_grow ?_ (by with_reducible assumption)))) (by repeat (first | (with_reducible assumption) | (with_reducible refine own_cellr ?_ H7.out _ _) | (with_reducible refine own_grow ?_ (by with_reducible assumption))))
    · have HNO : Hid (∀ b', ¬ IsAsk l b') := fun b' hb' => hm (by rw [(HTL2.out b' hb').1]; exact hb'.1)
      have HMD : Hid (decide (MayA b) = false) := decide_eq_false hm
      clear hm
      go_wp2_with (refine load_row_on rfl 24 _ rfl g5 rfl 24 V (0, 0) _ HV5.out Tryd.underlying24 rfl (by rw [HSV.out]; exact HI.out) ?_)
      refine (may_V HV.out _).mono ?_
      rw [HMD.out]
      rintro e w7 ⟨rfl, hb7⟩
      have HZZ := Lib.hid (row_below HZ5.out hb7)
      have LWW := Lib.hid (below_next LW5.out hb7)
      clear hb7
      go_wp2_with (refine wpList_store_row rfl 24 _ _ rfl w.heap.size (askVals zeroA none 0 none 0) rfl rfl 24 _ HZZ.out HI.out rfl HOZ.out ?_)
      have gS := below_setRow LWW.out (Nat.le_refl _) (askVals zeroA none 0 none 0)
      refine bodyPost_ret (v := .tuple #[.agg (askVals zeroA none 0 none 0), .slice none 0 0, .slice none 0 0, .int .i64 4]) ?_ rfl ⟨zeroA, [], [], 4, none, 0, none, 0, none, 0, none, 0, .inr (.inl ⟨by rw [← HN.out]; exact m1, by rw [← HN.out]; exact hb, HNO.out, rfl, rfl, rfl, rfl⟩), rfl, ⟨Has.nil _ _ _ _, Has.nil _ _ _ _, fun _ => ⟨rfl, rfl⟩, fun _ => ⟨rfl, rfl⟩, Nat.le_refl _, Nat.le_refl _⟩, Has.nil _ _ _ _, Has.nil _ _ _ _, gS⟩
      refine Eq.trans (results_cell4 (p := 2) (a := 3) (b := 4) (c := 5) (ty := 24) ?h _ _ w.heap.size 24 (askVals zeroA none 0 none 0) (0, 0) _ ?hp (setRow_heap _ _ _ _ 24 (0, 0) HZZ.out) Tryd.underlying24 rfl HI.out) rfl
      case h => rfl
      case hp => rfl
  · have HNO : Hid (∀ b', ¬ IsAsk l b') := fun b' hb' => hE (HTL2.out b' hb').2
    refine (refEndO 0 g s' W5 R5.out).mono ?_
    have e4 : endO s' = 4 := endO_four hE
    rw [e4]
    rintro e W6 ⟨rfl, rfl⟩
    have HZZ := HZ5
    have LWW := LW5
    clear hE e4 HZ5 LW5
    go_wp2_with (refine wpList_store_row rfl 24 _ _ rfl w.heap.size (askVals zeroA none 0 none 0) rfl rfl 24 _ HZZ.out HI.out rfl HOZ.out ?_)
    have gS := below_setRow LWW.out (Nat.le_refl _) (askVals zeroA none 0 none 0)
    refine bodyPost_ret (v := .tuple #[.agg (askVals zeroA none 0 none 0), .slice none 0 0, .slice none 0 0, .int .i64 4]) ?_ rfl ⟨zeroA, [], [], 4, none, 0, none, 0, none, 0, none, 0, .inr (.inl ⟨by rw [← HN.out]; exact m1, by rw [← HN.out]; exact hb, HNO.out, rfl, rfl, rfl, rfl⟩), rfl, ⟨Has.nil _ _ _ _, Has.nil _ _ _ _, fun _ => ⟨rfl, rfl⟩, fun _ => ⟨rfl, rfl⟩, Nat.le_refl _, Nat.le_refl _⟩, Has.nil _ _ _ _, Has.nil _ _ _ _, gS⟩
    refine Eq.trans (results_cell4 (p := 2) (a := 3) (b := 4) (c := 5) (ty := 24) ?h _ _ w.heap.size 24 (askVals zeroA none 0 none 0) (0, 0) _ ?hp (setRow_heap _ _ _ _ 24 (0, 0) HZZ.out) Tryd.underlying24 rfl HI.out) rfl
    case h => rfl
    case hp => rfl
end Go.Proofs.YtidpihpddkfhgaaDoor
