/- Contracts: a version is set, by the program's own code; errors not wrapped. -/
import Derived.Test.YtealebeacddbbaaDoorOh
namespace Go.Proofs.YtealebeacddbbaaDoor
open Go.RowKit Slices

theorem put_seed (K : KeyV) {i : Nat} (h : i < K.vs.length) (st due : Int) (j : Nat) : (vg (putK K i st due).vs j).seed = (vg K.vs j).seed := by
  show (vg (K.vs.set i _) j).seed = _
  rw [vg_set h]
  by_cases e : j = i
  · subst e; rw [if_pos rfl]
  · rw [if_neg e]
theorem put_mat {K : KeyV} {i n : Nat} (VS : Nat → Option Addr × Nat) (h : i < K.vs.length) (st due : Int) : mat 4 n (updM (updM (verF K.vs VS) i 1 (.int .i64 st)) i 2 (.int .i64 due)) = mat 4 n (verF (putK K i st due).vs VS) := mat_congr fun j r hj hr => by
  have e0 : vg (putK K i st due).vs j = if j = i then { vg K.vs i with st := st, due := due } else vg K.vs j := by
    show vg (K.vs.set i _) j = _
    rw [vg_set h]
  unfold updM
  rcases (by omega : r = 0 ∨ r = 1 ∨ r = 2 ∨ r = 3) with rfl | rfl | rfl | rfl <;>
  · by_cases e : j = i
    · subst e; simp [verF, e0]
    · simp [verF, e0, e]
theorem updM_twice (f : Nat → Nat → Value) (j r : Nat) (a b : Value) : updM (updM f j r a) j r b = updM f j r b := by
  funext j' r'
  unfold updM
  by_cases e : j' = j ∧ r' = r
  · rw [if_pos e, if_pos e]
  · rw [if_neg e, if_neg e, if_neg e]
set_option maxRecDepth 100000 in
set_option maxHeartbeats 4000000 in
theorem set_yes (K : KeyV) (op n till clock : Int) (A : Option Addr) (c : Nat) (w : World) (h : RdK w A c K) (hq : Asked K op n) (hf : From op (vg K.vs (n - 1).toNat).st) (ht : op = 7 → clock < till ∧ 1 ≤ till ∧ till ≤ 1099511627776) :
    Calls Tryd.prog 19 #[keyVal K A c, .int .i64 op, .int .i64 n, .int .i64 till, .int .i64 clock] w (KeyOwn (putK K (n - 1).toNat (toS op) (dueS op till)) w) := by
  obtain ⟨i, hi⟩ : ∃ i : Nat, n = (i : Int) + 1 := ⟨(n - 1).toNat, by have := hq.n1; omega⟩
  have hidx : (n - 1).toNat = i := by omega
  rw [hidx]
  have HI : Hid ((Tryd.prog.info? 24).map (·.size) = some 4) := by show _ = _; kernel_rfl
  have HQ := Lib.hid hq
  have HFR := Lib.hid hf
  have HT := Lib.hid ht
  have hlt : i < K.vs.length := by have := hq.n2; omega
  have few := hq.may.few
  have HF := Lib.hid (may_few hq.may)
  obtain ⟨W, hW⟩ : ∃ W, W = (w.alloc (.cells #[.int .i64 K.id, .int .i64 K.ten, .int .i64 K.set, .slice A K.vs.length c] 24)).alloc (.cells #[.int .i64 0, .int .i64 0, .int .i64 0, .slice none 0 0] 24) := ⟨_, rfl⟩
  have hb0 : Below w.heap.size w W := by rw [hW]; exact ((Below.refl _ _).alloc (Nat.le_refl _) _).alloc (by simp) _
  have r0 : W.heap[w.heap.size]? = some (.cells #[.int .i64 K.id, .int .i64 K.ten, .int .i64 K.set, .slice A K.vs.length c] 24 (0, 0)) := by rw [hW]; exact heap_alloc2_old w _ _
  have r1 : W.heap[w.heap.size + 1]? = some (.cells #[.int .i64 0, .int .i64 0, .int .i64 0, .slice none 0 0] 24 (0, 0)) := by rw [hW]; exact heap_alloc2_new w _ _
  have R0 := Lib.hid r0
  have R1 := Lib.hid r1
  have B0 := Lib.hid hb0
  have RD := Lib.hid (h.next hb0)
  clear hq hb0 r0 r1 h hf ht hidx
  subst hi
  unfold keyVal
  go_enter Tryd.func19, Tryd.ntmps19
  go_wp2_with fail
  rw [← hW]
  clear hW
  refine (refusal_yes K op ((i : Int) + 1) till clock A c W RD.out HQ.out HFR.out HT.out).mono ?_
  rintro e w1 ⟨rfl, hb⟩
  have B1 := Lib.hid (below_next B0.out hb)
  have R01 : Hid (w1.heap[w.heap.size]? = _) := (hb.block _ (Array.getElem?_eq_some_iff.1 R0.out).1).trans R0.out
  have R11 : Hid (w1.heap[w.heap.size + 1]? = _) := (hb.block _ (Array.getElem?_eq_some_iff.1 R1.out).1).trans R1.out
  have RD1 := Lib.hid (RD.out.next hb)
  clear hb R0 R1 RD B0
  have y0 := cell_of_row _ _ 0 _ _ _ R01.out
  have y1 := cell_of_row _ _ 1 _ _ _ R01.out
  have y2 := cell_of_row _ _ 2 _ _ _ R01.out
  have y3 := cell_of_row _ _ 3 _ _ _ R01.out
  go_wp2_with fail
  clear y0 y1 y2 y3
  refine (copied_any K A c w1 RD1.out (by omega) (fun k hk => by have := HF.out.2 k hk; omega)).mono ?_
  rintro e w2 ⟨S, rfl, ho, hb⟩
  have B2 := Lib.hid (below_next B1.out hb)
  have R12 : Hid (w2.heap[w.heap.size + 1]? = _) := (hb.block _ (Array.getElem?_eq_some_iff.1 R11.out).1).trans R11.out
  have HO2 := Lib.hid (OwnK.down ho B1.out.size)
  clear hb ho R01 R11 RD1 B1
  obtain ⟨A2, c2⟩ := S
  obtain ⟨VS, hm2, hs2⟩ := HO2.out
  simp only at hm2
  obtain ⟨q, hqa, hq1, hq2, cur, hcur⟩ := hm2.at (by omega)
  subst hqa
  unfold keyVal
  simp only
  have e1 : (i : Int) + 1 - 1 = (i : Int) := by omega
  have hlt2 : (i : Int) < (K.vs.length : Int) := by omega
  obtain ⟨m, hm⟩ : ∃ m, m = K.vs.length := ⟨_, rfl⟩
  have HMM := Lib.hid hm
  rw [← hm] at hm2 hlt2 hlt few ⊢
  have HM2 := Lib.hid hm2
  have HS2 := Lib.hid hs2
  have HCU := Lib.hid hcur
  clear hm hm2 hs2 hcur HO2
  go_wp2_with fail
  obtain ⟨W3, hW3⟩ : ∃ W3, W3 = w2.alloc (.cells #[.int .i64 K.id, .int .i64 K.ten, .int .i64 K.set, .slice (some ⟨q, 0, none⟩) m c2] 24) := ⟨_, rfl⟩
  have L3 : Hid (Below w2.heap.size w2 W3) := by rw [hW3]; exact Lib.hid ((Below.refl _ _).alloc (Nat.le_refl _) _)
  have RK3 : Hid (W3.heap[w2.heap.size]? = some (.cells #[.int .i64 K.id, .int .i64 K.ten, .int .i64 K.set, .slice (some ⟨q, 0, none⟩) m c2] 24 (0, 0))) := by rw [hW3]; exact Lib.hid (heap_alloc_new w2 _)
  rw [← hW3]
  clear hW3
  refine (turn_any op W3 HQ.out.lo HQ.out.hi).mono ?_
  rintro e w4 ⟨af, cf, rfl, _, _, hb⟩
  have L4 : Hid (Below w2.heap.size w2 w4) := below_next L3.out hb
  have B4 := Lib.hid (below_next B2.out L4.out)
  have RK4 : Hid (w4.heap[w2.heap.size]? = _) := (hb.block _ (Array.getElem?_eq_some_iff.1 RK3.out).1).trans RK3.out
  have RR4 : Hid (w4.heap[w.heap.size + 1]? = some (.cells #[.int .i64 0, .int .i64 0, .int .i64 0, .slice none 0 0] 24 (0, 0))) := (L4.out.block _ (Array.getElem?_eq_some_iff.1 R12.out).1).trans R12.out
  have RC4 : Hid (w4.heap[q]? = some (.cells cur 30 (0, 0))) := (L4.out.block _ hq2).trans HCU.out
  have HM4 := Lib.hid (HM2.out.next L4.out)
  have HS4 : Hid (∀ j, j < K.vs.length → OwnB w4 w.heap.size (VS j) (vg K.vs j).seed) := fun j hj => (HS2.out j hj).next L4.out
  have no : w2.heap.size ≠ q := by omega
  have no1 : w.heap.size + 1 ≠ q := fun e => by
    have e0 := RR4.out
    rw [e] at e0
    rw [e0] at RC4
    have e2 := RC4.out
    injection e2 with e2
    injection e2 with _ e2
    exact absurd e2 (by decide)
  have f1 := World.ownsRow.frozenAt HM4.out (i * 4 + 1)
  have f2 := World.ownsRow.frozenAt HM4.out (i * 4 + 2)
  have c1 := (World.ownsRow.cellAt HM4.out (i * 4 + 1) (place_lt hlt (by omega))).trans (mat_at 4 m _ hlt (by omega))
  have c2' := (World.ownsRow.cellAt HM4.out (i * 4 + 2) (place_lt hlt (by omega))).trans (mat_at 4 m _ hlt (by omega))
  clear hb L3 RK3 R12 B2 HM2 HS2 HCU
  obtain ⟨V, hV⟩ : ∃ V : Array Value, V = #[.int .i64 K.id, .int .i64 K.ten, .int .i64 K.set, .slice (some ⟨q, 0, none⟩) m c2] := ⟨_, rfl⟩
  have HV1 : Hid (V.all (·.oneCell') = true) := by show _ = _; rw [hV]; simp [Value.oneCell']
  have HV2 : Hid (V.size = 4) := by show _ = _; rw [hV]; rfl
  rw [← hV] at RK4
  have HVV := Lib.hid hV
  clear hV
  have h3 := toS_doom (op := op)
  by_cases h7 : op = 7
  · have ed : dueS op till = till := if_pos h7
    have et : toS op = 3 := h3.2 h7
    have HED := Lib.hid ed
    have HET := Lib.hid et
    rw [et]
    clear ed et h3 h7
    obtain ⟨W5, hW5⟩ : ∃ W5, W5 = (((w4.setCell ⟨q, i * 4 + 1, none⟩ (.int .i64 3)).setCell ⟨q, i * 4 + 2, none⟩ (.int .i64 0)).setCell ⟨q, i * 4 + 2, none⟩ (.int .i64 till)) := ⟨_, rfl⟩
    have RK5 : Hid (W5.heap[w2.heap.size]? = some (.cells V 24 (0, 0))) := by rw [hW5]; exact Lib.hid (row_far (row_far (row_far RK4.out no) no) no)
    have RR5 : Hid (W5.heap[w.heap.size + 1]? = some (.cells #[.int .i64 0, .int .i64 0, .int .i64 0, .slice none 0 0] 24 (0, 0))) := by rw [hW5]; exact Lib.hid (row_far (row_far (row_far RR4.out no1) no1) no1)
    have B5 : Hid (Below w.heap.size w W5) := by rw [hW5]; exact Lib.hid (below_cell (below_cell (below_cell B4.out hq1 _ _) hq1 _ _) hq1 _ _)
    have HK5 : Hid (OwnK W5 w.heap.size (some ⟨q, 0, none⟩, c2) (putK K i 3 till)) := by
      refine ⟨VS, ?_, fun j hj => ?_⟩
      · have q1 := (((HM4.out.stored hlt (r := 1) (by omega) (.int .i64 3)).stored hlt (r := 2) (by omega) (.int .i64 0)).stored hlt (r := 2) (by omega) (.int .i64 till))
        unfold OwnM at q1 ⊢
        rw [updM_twice] at q1
        rw [put_mat VS (by rw [← HMM.out]; exact hlt)] at q1
        rw [put_len, ← HMM.out, hW5]
        exact q1
      · rw [put_len] at hj
        rw [put_seed K (by rw [← HMM.out]; exact hlt), hW5]
        have q1 := HS4.out j hj
        exact World.ownsRow.kept q1 (grown_by_trans (grown_by_trans (grown_cell _ _ _ _) (grown_cell _ _ _ _)) (grown_cell _ _ _ _)) (own_ne_ty q1 RC4.out (by decide))
    rw [hW5] at RK5 RR5
    go_wp2_with (first
      | (refine wpList_load_row rfl 24 _ rfl w2.heap.size rfl 24 V (0, 0) _ RK5.out Tryd.underlying24 rfl (by rw [HV2.out]; exact HI.out) ?_; clear f1 f2 c1 c2')
      | (refine wpList_store_row rfl 24 _ _ rfl (w.heap.size + 1) V rfl rfl 24 _ RR5.out (by rw [HV2.out]; exact HI.out) (by rw [HV2.out]; rfl) HV1.out ?_))
    rw [← hW5] at RR5 ⊢
    refine bodyPost_ret (v := .tuple #[.agg V, .nilIface]) ?_ rfl ?_
    · refine Eq.trans (results_cell2 (p := 10) (a := 11) (ty := 24) ?h _ _ (w.heap.size + 1) 24 V (0, 0) _ ?hp (setRow_heap _ _ _ _ 24 (0, 0) RR5.out) Tryd.underlying24 rfl (by rw [HV2.out]; exact HI.out)) rfl
      case h => rfl
      case hp => rfl
    show KeyOwn (putK K i (toS op) (dueS op till)) w _ _
    rw [HED.out, HET.out]
    exact ⟨(some ⟨q, 0, none⟩, c2), by rw [HVV.out, HMM.out, ← put_len K i 3 till]; rfl, HK5.out.set RR5.out (by decide) (by decide), below_setRow B5.out (by omega) _⟩
  · have ed : dueS op till = 0 := if_neg h7
    have et : (toS op == 3) = false := beq_eq_false_iff_ne.2 fun e => h7 (h3.1 e)
    obtain ⟨tt, htt⟩ : ∃ tt, tt = toS op := ⟨_, rfl⟩
    rw [← htt] at et ⊢
    have HED := Lib.hid ed
    have HET : Hid (toS op = tt) := htt.symm
    clear ed htt h3 h7
    obtain ⟨W5, hW5⟩ : ∃ W5, W5 = ((w4.setCell ⟨q, i * 4 + 1, none⟩ (.int .i64 tt)).setCell ⟨q, i * 4 + 2, none⟩ (.int .i64 0)) := ⟨_, rfl⟩
    have RK5 : Hid (W5.heap[w2.heap.size]? = some (.cells V 24 (0, 0))) := by rw [hW5]; exact Lib.hid (row_far (row_far RK4.out no) no)
    have RR5 : Hid (W5.heap[w.heap.size + 1]? = some (.cells #[.int .i64 0, .int .i64 0, .int .i64 0, .slice none 0 0] 24 (0, 0))) := by rw [hW5]; exact Lib.hid (row_far (row_far RR4.out no1) no1)
    have B5 : Hid (Below w.heap.size w W5) := by rw [hW5]; exact Lib.hid (below_cell (below_cell B4.out hq1 _ _) hq1 _ _)
    have HK5 : Hid (OwnK W5 w.heap.size (some ⟨q, 0, none⟩, c2) (putK K i tt 0)) := by
      refine ⟨VS, ?_, fun j hj => ?_⟩
      · have q1 := ((HM4.out.stored hlt (r := 1) (by omega) (.int .i64 tt)).stored hlt (r := 2) (by omega) (.int .i64 0))
        unfold OwnM at q1 ⊢
        rw [put_mat VS (by rw [← HMM.out]; exact hlt)] at q1
        rw [put_len, ← HMM.out, hW5]
        exact q1
      · rw [put_len] at hj
        rw [put_seed K (by rw [← HMM.out]; exact hlt), hW5]
        have q1 := HS4.out j hj
        exact World.ownsRow.kept q1 (grown_by_trans (grown_cell _ _ _ _) (grown_cell _ _ _ _)) (own_ne_ty q1 RC4.out (by decide))
    rw [hW5] at RK5 RR5
    go_wp2_with (first
      | (refine wpList_load_row rfl 24 _ rfl w2.heap.size rfl 24 V (0, 0) _ RK5.out Tryd.underlying24 rfl (by rw [HV2.out]; exact HI.out) ?_; clear f1 f2 c1 c2')
      | (refine wpList_store_row rfl 24 _ _ rfl (w.heap.size + 1) V rfl rfl 24 _ RR5.out (by rw [HV2.out]; exact HI.out) (by rw [HV2.out]; rfl) HV1.out ?_))
    rw [← hW5] at RR5 ⊢
    refine bodyPost_ret (v := .tuple #[.agg V, .nilIface]) ?_ rfl ?_
    · refine Eq.trans (results_cell2 (p := 10) (a := 11) (ty := 24) ?h _ _ (w.heap.size + 1) 24 V (0, 0) _ ?hp (setRow_heap _ _ _ _ 24 (0, 0) RR5.out) Tryd.underlying24 rfl (by rw [HV2.out]; exact HI.out)) rfl
      case h => rfl
      case hp => rfl
    show KeyOwn (putK K i (toS op) (dueS op till)) w _ _
    rw [HED.out, HET.out]
    exact ⟨(some ⟨q, 0, none⟩, c2), by rw [HVV.out, HMM.out, ← put_len K i tt 0]; rfl, HK5.out.set RR5.out (by decide) (by decide), below_setRow B5.out (by omega) _⟩
end Go.Proofs.YtealebeacddbbaaDoor
