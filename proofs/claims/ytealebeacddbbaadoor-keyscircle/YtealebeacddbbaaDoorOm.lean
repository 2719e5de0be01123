/- Contract: the current version, by the program's own code (a range over slices.Backward). -/
import Derived.Test.YtealebeacddbbaaDoorOl
namespace Go.Proofs.YtealebeacddbbaaDoor
open Go.RowKit Slices

attribute [local go_sem] Oper.semAt_some

/-- a block of cells is spoken of as cells are -/
theorem row_own {β : Type} (B : Nat) (cs : Array Value) (t : TypeId) (fr : Nat × Nat) : Own (fun (_ : β) W => W.heap[B]? = some (.cells cs t fr)) := fun _ X _ row hs hg hrow =>
  (hg.block B (Array.getElem?_eq_some_iff.1 hs).1 (fun e' => by obtain ⟨o, ho, hc⟩ := hrow B e'.symm; rw [hs] at ho; cases ho; cases hc)).trans hs
theorem keepsFrom_below {B : Nat} {W W' : World} (h : Below W.heap.size W W') : KeepsFrom B W W' :=
  ⟨h.size, fun i _ _ hi _ => (h.block i (Array.getElem?_eq_some_iff.1 hi).1).trans hi⟩
/-- what the first rounds are: none of them was the one -/
theorem first_one {l : List Ver} {n i k x : Nat} {ini : List Nat} (hk : k ≤ n) (e : downs n k = ini ++ [x]) (hi : i < n) (h1 : (vg l i).st = 1) (hx : (vg l x).st = 1) (hini : ∀ y ∈ ini, (vg l y).st ≠ 1) (hlast : ∀ j, i < j → j < n → (vg l j).st ≠ 1) : x = i := by
  have hk0 : k ≠ 0 := fun q => by subst q; simp [downs] at e
  obtain ⟨k', rfl⟩ : ∃ k', k = k' + 1 := ⟨k - 1, by omega⟩
  rw [downs_succ] at e
  obtain ⟨e1, e2⟩ := List.append_inj' e rfl
  have hx2 : n - 1 - k' = x := by simpa using e2
  rcases Nat.lt_trichotomy x i with q | q | q
  · exfalso
    refine hini i ?_ h1
    rw [← e1, downs_mem (by omega)]
    omega
  · exact q
  · exact absurd hx (hlast x q (by omega))

set_option maxRecDepth 100000 in
set_option maxHeartbeats 4000000 in
theorem pCurrent_yes (K : KeyV) (i : Nat) (A : Option Addr) (c : Nat) (w : World) (h : RdK w A c K) (m : MayK K) (hi : i < K.vs.length) (h1 : (vg K.vs i).st = 1) (hl : ∀ j, i < j → j < K.vs.length → (vg K.vs j).st ≠ 1) :
    Calls Tryd.prog 16 #[keyVal K A c] w (VerTold (vg K.vs i) w) := by
  obtain ⟨VS, hm, hs⟩ := hasV_places h.has
  have few := m.few
  have HM := Lib.hid m
  have HF := Lib.hid (may_few m)
  have HH := Lib.hid hm
  have HS := Lib.hid hs
  have H1 := Lib.hid h1
  have HL := Lib.hid hl
  obtain ⟨W0, hW0⟩ : ∃ W0, W0 = ((w.alloc (.cells #[.int .i64 K.id, .int .i64 K.ten, .int .i64 K.set, .slice A K.vs.length c] 24)).alloc (.cells #[.int .i64 0, .int .i64 0, .int .i64 0, .slice none 0 0] 30)).alloc (.cells #[.bool false] 4) := ⟨_, rfl⟩
  have hb0 : Below w.heap.size w W0 := by rw [hW0]; exact (((Below.refl _ _).alloc (Nat.le_refl _) _).alloc (by simp) _).alloc (by simp; omega) _
  have hz0 : W0.heap.size = w.heap.size + 1 + 1 + 1 := by rw [hW0]; simp
  have r0 : W0.heap[w.heap.size]? = some (.cells #[.int .i64 K.id, .int .i64 K.ten, .int .i64 K.set, .slice A K.vs.length c] 24 (0, 0)) := by rw [hW0]; exact (((Below.refl _ _).alloc (Nat.le_refl _) _).block w.heap.size (by simp; omega)).trans (heap_alloc2_old w _ _)
  have r1 : W0.heap[w.heap.size + 1]? = some (.cells #[.int .i64 0, .int .i64 0, .int .i64 0, .slice none 0 0] 30 (0, 0)) := by rw [hW0]; exact (((Below.refl _ _).alloc (Nat.le_refl _) _).block (w.heap.size + 1) (by simp)).trans (heap_alloc2_new w _ _)
  have r2 : W0.heap[w.heap.size + 1 + 1]? = some (.cells #[.bool false] 4 (0, 0)) := by
    rw [hW0]
    have := heap_alloc_new ((w.alloc (.cells #[.int .i64 K.id, .int .i64 K.ten, .int .i64 K.set, .slice A K.vs.length c] 24)).alloc (.cells #[.int .i64 0, .int .i64 0, .int .i64 0, .slice none 0 0] 30)) (.cells #[.bool false] 4)
    simpa using this
  have HC := Lib.hid (pMay_any K A c W0 (h.next hb0) HF.out)
  have B0 := Lib.hid hb0
  have R0 := Lib.hid r0
  have R1 := Lib.hid r1
  have R2 := Lib.hid r2
  have HZ := Lib.hid hz0
  clear h m hm hs h1 hl hb0 r0 r1 r2 hz0
  unfold keyVal at HC ⊢
  refine (callsIn_wide (n := 5)).1 ?_
  refine callsIn_of_wp_marks Tryd.func16 rfl trivial ?_ rfl
  simp only [Tryd.ntmps16, List.size_toArray, List.length_cons, List.length_nil, Nat.reduceAdd, Nat.reduceSub, Array.replicate_succ, Array.replicate_zero, List.push_toArray, List.append_toArray, List.nil_append, List.cons_append]
  gi_wp2_with fail
  rw [← hW0]
  refine ⟨trivial, callsIn_wide.2 (HC.out.mono ?_)⟩
  rw [mayKC_yes HM.out]
  rintro e W1 ⟨rfl, hb⟩
  have B1 := Lib.hid (below_next B0.out hb)
  have K1 : Hid (W1.heap[w.heap.size]? = _) := (hb.block _ (Array.getElem?_eq_some_iff.1 R0.out).1).trans R0.out
  have V1 : Hid (W1.heap[w.heap.size + 1]? = _) := (hb.block _ (Array.getElem?_eq_some_iff.1 R1.out).1).trans R1.out
  have T1 : Hid (W1.heap[w.heap.size + 1 + 1]? = _) := (hb.block _ (Array.getElem?_eq_some_iff.1 R2.out).1).trans R2.out
  have hh1 := HH.out.next B1.out
  have HZ1 : Hid (w.heap.size + 1 + 1 + 1 ≤ W1.heap.size) := by have := hb.size; have := HZ.out; exact Lib.hid (by omega)
  have y3 := cell_of_row _ _ 3 _ _ _ K1.out
  have HH1 := Lib.hid hh1
  clear hb hh1 R0 R1 R2 HZ B0 HC hW0 HH
  gi_wp2_with (refine ⟨trivial, ?_⟩; gi_at_call 26; refine (backward_in Fence.wide _ trivial rfl _ _ _ _).mono ?_; rintro e w' ⟨rfl, rfl⟩)
  obtain ⟨WL, hWL⟩ : ∃ WL, WL = W1.alloc (.cells #[.slice A K.vs.length c] 22) := ⟨_, rfl⟩
  have LL : Hid (Below W1.heap.size W1 WL) := by rw [hWL]; exact Lib.hid ((Below.refl _ _).alloc (Nat.le_refl _) _)
  have hBs : WL.cell? ⟨W1.heap.size, 0, none⟩ = some (.slice A K.vs.length c) := by rw [hWL]; exact cell_of_row _ _ 0 _ _ _ (heap_alloc_new W1 _)
  have hzL : WL.heap.size = W1.heap.size + 1 := by rw [hWL]; simp
  have VL : Hid (WL.heap[w.heap.size + 1]? = _) := (LL.out.block _ (Array.getElem?_eq_some_iff.1 V1.out).1).trans V1.out
  have TL : Hid (WL.heap[w.heap.size + 1 + 1]? = _) := (LL.out.block _ (Array.getElem?_eq_some_iff.1 T1.out).1).trans T1.out
  have BL := Lib.hid (below_next B1.out LL.out)
  have hHL := HH1.out.next LL.out
  have hz3 := HZ1.out
  rw [← hWL]
  clear hWL y3 V1 T1 K1 HH1 LL
  refine wpIn_rangeFunc_ownH (F := Fence.wide) (n := 5) rfl (by omega) (gf := 39) (lb := #[.pointer (some ⟨W1.heap.size, 0, none⟩)]) rfl trivial (enters_of Tryd.func39 (by kernel_rfl) rfl)
    (backward_stops Fence.wide 4 trivial rfl (by omega) W1.heap.size WL.heap.size K.vs.length c A K.vs VS (by omega) WL (by omega) (Nat.le_refl _) hBs hHL) belowK_t (belowK_b (Nat.le_refl _)) (Below.refl _ _) (fun _ => rfl)
    (fun pre W => (∀ y ∈ pre, (vg K.vs y).st ≠ 1) ∧ Below WL.heap.size WL W)
    (fun k pre W => (k = .ret ∧ ∃ (ini : List Nat) (x : Nat) (S : Option Addr × Nat), pre = ini ++ [x] ∧ (∀ y ∈ ini, (vg K.vs y).st ≠ 1) ∧ (vg K.vs x).st = 1 ∧ W.heap[w.heap.size + 1]? = some (.cells #[.int .i64 (vg K.vs x).n, .int .i64 (vg K.vs x).st, .int .i64 (vg K.vs x).due, .slice S.1 (vg K.vs x).seed.length S.2] 30 (0, 0)) ∧ W.heap[w.heap.size + 1 + 1]? = some (.cells #[.bool true] 4 (0, 0))) ∧ Below w.heap.size w W)
    ?hI ?hIx ?h0
    (fun x a' W => ∃ Bx, WL.heap.size ≤ Bx ∧ W.heap[Bx]? = some (.cells #[.int .i64 (vg K.vs x).n, .int .i64 (vg K.vs x).st, .int .i64 (vg K.vs x).due, .slice (VS x).1 (vg K.vs x).seed.length (VS x).2] 30 (0, 0)) ∧ a' = { tmps := #[.agg #[.int .i64 K.id, .int .i64 K.ten, .int .i64 K.set, .slice A K.vs.length c], .pointer (some ⟨w.heap.size, 0, none⟩), .pointer (some ⟨w.heap.size + 1, 0, none⟩), .pointer (some ⟨w.heap.size + 1 + 1, 0, none⟩), undef, .pointer (some ⟨Bx, 0, none⟩), .agg #[.int .i64 K.id, .int .i64 K.ten, .int .i64 K.set, .slice A K.vs.length c], .bool true, .bool false, undef, .pointer (some ⟨w.heap.size, 3, none⟩), .slice A K.vs.length c, .func (.func 39) #[] #[.pointer (some ⟨W1.heap.size, 0, none⟩)], .int .i64 (x : Int), .agg #[.int .i64 (vg K.vs x).n, .int .i64 (vg K.vs x).st, .int .i64 (vg K.vs x).due, .slice (VS x).1 (vg K.vs x).seed.length (VS x).2], undef, undef, undef, undef, undef, undef], defers := [] })
    ?hAx ?assign ?body ?done ?stop
  case hI => exact OwnFrom.and (ownFrom_pure _ _) (ownFrom_below (Nat.le_refl _) (Nat.le_refl _))
  case hIx =>
    intro k
    refine OwnFrom.and (Own.from (fun s X Y row hs hg hr => ?_) _) (ownFrom_below (Nat.le_refl _) BL.out.size)
    obtain ⟨hk, ini, x, S, e1, e2, e3, h1, h2⟩ := hs
    exact ⟨hk, ini, x, S, e1, e2, e3, row_own (β := Unit) _ _ _ _ () X Y row h1 hg hr, row_own (β := Unit) _ _ _ _ () X Y row h2 hg hr⟩
  case h0 => exact ⟨fun y hy => (by cases hy), Below.refl _ _⟩
  case hAx =>
    rintro x a' s X Y row ⟨Bx, hB, hr, e⟩ hg hrow
    exact ⟨Bx, hB, row_own (β := Unit) _ _ _ _ () X Y row hr hg (fun r e => (hrow r e).2), e⟩
  case assign =>
    rintro l pre x W KK ⟨hp, hB1⟩ hK
    dsimp only [encV]
    gi_wp2
    exact hK _ _ ((KeepsOthers.alloc _ _).from _) ((Below.refl _ W).alloc hB1.size _) ⟨hp, hB1.alloc hB1.size _⟩ ⟨W.heap.size, hB1.size, World.alloc_heap_new W _, rfl⟩
  case body =>
    rintro l pre x a' W hl ⟨r, hr⟩ ⟨hp, hB1⟩ ⟨Bx, hBx, bX, rfl⟩ hlt
    have HP := Lib.hid hp
    have HB1 := Lib.hid hB1
    have x0 := cell_of_row _ _ 0 _ _ _ bX
    have x1 := cell_of_row _ _ 1 _ _ _ bX
    have x2 := cell_of_row _ _ 2 _ _ _ bX
    have x3 := cell_of_row _ _ 3 _ _ _ bX
    clear hp hB1 hr bX hBs hHL
    by_cases hst : (vg K.vs x).st = 1
    · have t : ((vg K.vs x).st == 1) = true := by rw [hst]; rfl
      have hxn : x < K.vs.length := by
        rcases Nat.lt_or_ge x K.vs.length with q | q
        · exact q
        · exfalso
          have e : vg K.vs x = ver0 := by unfold vg; rw [List.getD_eq_getElem?_getD, List.getElem?_eq_none q]; rfl
          rw [e] at hst
          exact absurd hst (by decide)
      have HST := Lib.hid hst
      have hseed := HS.out x hxn
      have HSD : Hid (SeedIn W W.heap.size (VS x) (vg K.vs x).seed) := ⟨has_next hseed.1 (below_next BL.out HB1.out), hseed.2⟩
      have hlen : (vg K.vs x).seed.length ≤ 3000 := by have := HF.out.2 x hxn; omega
      clear hst hseed
      gi_wp2_with fail
      refine ⟨trivial, (CallsIn.inRound l (callsIn_wide.2 (alone_any (vg K.vs x) (VS x) W HSD.out hlen))).mono ?_⟩
      rintro e w' ⟨S', rfl, _, hb⟩
      have BB := Lib.hid (below_next HB1.out hb)
      have LW : Hid (Below W.heap.size W w') := hb
      have V2 : Hid (w'.heap[w.heap.size + 1]? = _) := (BB.out.block _ (Array.getElem?_eq_some_iff.1 VL.out).1).trans VL.out
      have T2 : Hid (w'.heap[w.heap.size + 1 + 1]? = _) := (BB.out.block _ (Array.getElem?_eq_some_iff.1 TL.out).1).trans TL.out
      have z0 := cell_of_row _ _ 0 _ _ _ V2.out
      have z1 := cell_of_row _ _ 1 _ _ _ V2.out
      have z2 := cell_of_row _ _ 2 _ _ _ V2.out
      have z3 := cell_of_row _ _ 3 _ _ _ V2.out
      have z4 := cell_of_row _ _ 0 _ _ _ T2.out
      have f0 := frozen_of_row _ _ 0 _ _ V2.out
      have f1 := frozen_of_row _ _ 1 _ _ V2.out
      have f2 := frozen_of_row _ _ 2 _ _ V2.out
      have f3 := frozen_of_row _ _ 3 _ _ V2.out
      have f4 := frozen_of_row _ _ 0 _ _ T2.out
      clear hb x0 x1 x2 x3 t
      unfold verVal
      gi_wp2
      clear z0 z1 z2 z3 z4 f0 f1 f2 f3 f4
      have q0 := heap_setCell_same w' (w.heap.size + 1) 0 _ _ (.int .i64 (vg K.vs x).n) V2.out
      have q1 := heap_setCell_same _ (w.heap.size + 1) 1 _ _ (.int .i64 (vg K.vs x).st) q0
      have q2 := heap_setCell_same _ (w.heap.size + 1) 2 _ _ (.int .i64 (vg K.vs x).due) q1
      have q3 := heap_setCell_same _ (w.heap.size + 1) 3 _ _ (.slice S'.1 (vg K.vs x).seed.length S'.2) q2
      have no : w.heap.size + 1 ≠ w.heap.size + 1 + 1 := by omega
      have no2 : w.heap.size + 1 + 1 ≠ w.heap.size + 1 := by omega
      have q4 := row_far (q := w.heap.size + 1 + 1) (i := 0) (v := .bool true) q3 no
      have p4 := heap_setCell_same _ (w.heap.size + 1 + 1) 0 _ _ (.bool true) (row_far (q := w.heap.size + 1) (i := 3) (v := .slice S'.1 (vg K.vs x).seed.length S'.2) (row_far (q := w.heap.size + 1) (i := 2) (v := .int .i64 (vg K.vs x).due) (row_far (q := w.heap.size + 1) (i := 1) (v := .int .i64 (vg K.vs x).st) (row_far (q := w.heap.size + 1) (i := 0) (v := .int .i64 (vg K.vs x).n) T2.out no2) no2) no2) no2)
      have hw : w.heap.size ≤ w.heap.size + 1 := by omega
      have hw2 : w.heap.size ≤ w.heap.size + 1 + 1 := by omega
      exact ⟨(((((keepsFrom_below LW.out).trans ((KeepsOthers.setCell _ _ _).from _)).trans ((KeepsOthers.setCell _ _ _).from _)).trans ((KeepsOthers.setCell _ _ _).from _)).trans ((KeepsOthers.setCell _ _ _).from _)).trans ((KeepsOthers.setCell _ _ _).from _),
        ⟨rfl, pre, x, S', rfl, HP.out, HST.out, q4, p4⟩, below_cell (below_cell (below_cell (below_cell (below_cell (below_next BL.out BB.out) hw _ _) hw _ _) hw _ _) hw _ _) hw2 _ _⟩
    · have t : ((vg K.vs x).st == 1) = false := beq_eq_false_iff_ne.2 hst
      have HST := Lib.hid hst
      clear hst
      gi_wp2
      exact ⟨KeepsFrom.refl _ _, Below.refl _ _, fun y hy => (List.mem_append.1 hy).elim (HP.out y) (fun q => by simp at q; subst q; exact HST.out), HB1.out⟩
  case done =>
    rintro D ys W hD rfl ⟨hp, hB⟩ hK
    exact absurd H1.out (hp i ((downs_mem (Nat.le_refl _)).2 ⟨by omega, hi⟩))
  case stop =>
    rintro D k pre W hD ⟨kk, hkk, rfl⟩ ⟨⟨rfl, ini, x, S, e1, e2, e3, h1, h2⟩, hB⟩ hK
    obtain rfl : x = i := first_one hkk e1 hi H1.out e3 e2 HL.out
    have h1' := row_own (β := Unit) _ _ _ _ () _ _ _ h1 (grownBy_putObj' W D (.deferred none)) (fun r e => by cases e; exact ⟨_, hK, rfl⟩)
    have h2' := row_own (β := Unit) _ _ _ _ () _ _ _ h2 (grownBy_putObj' W D (.deferred none)) (fun r e => by cases e; exact ⟨_, hK, rfl⟩)
    gi_wp2
    refine ⟨by simp, .inl ⟨_, _, rfl, run_takeDeferred hK, ?_⟩⟩
    refine ⟨.tuple #[.agg #[.int .i64 (vg K.vs x).n, .int .i64 (vg K.vs x).st, .int .i64 (vg K.vs x).due, .slice S.1 (vg K.vs x).seed.length S.2], .bool true], ?_, S.1, _, S.2, rfl, hB.trans (belowK_b (w := w) (Nat.le_refl _) W D _ _ (by have := BL.out.size; omega) hK rfl rfl)⟩
    have k0 := cell_of_row _ _ 0 _ _ _ h1'
    have k1 := cell_of_row _ _ 1 _ _ _ h1'
    have k2 := cell_of_row _ _ 2 _ _ _ h1'
    have k3 := cell_of_row _ _ 3 _ _ _ h1'
    have k4 := cell_of_row _ _ 0 _ _ _ h2'
    simp [results, Tryd.f16, go_sem, k0, k1, k2, k3, k4]
end Go.Proofs.YtealebeacddbbaaDoor
