/- Contract: the landed code's requestIn. -/
import Derived.Test.YtidpihpddkfhgaaDoorPz
import Derived.Test.YtidpihpddkfhgaaDoorPe
namespace Go.Proofs.YtidpihpddkfhgaaDoor
open Go.RowKit Slices Go.Proofs.YtidpihpddkfhgaaDoor.Bit

/-- what requestIn answers: what is read of b, and whether all was right -/
def ReqP (b : List Int) (w : World) (e : Ending) (w' : World) : Prop :=
  ∃ A1 c1 A2 c2 v, e = .returned (.tuple #[.agg (askVals (takeA bndA 300 2000 100 (some b)).1 A1 c1 A2 c2), v]) ∧
    w'.ownsRow w.heap.size 5 1 (.slice A1 (takeA bndA 300 2000 100 (some b)).1.bytes.length c1) (takeA bndA 300 2000 100 (some b)).1.bytes.length (ints .u8 (takeA bndA 300 2000 100 (some b)).1.bytes) ∧
    w'.ownsRow w.heap.size 5 1 (.slice A2 (takeA bndA 300 2000 100 (some b)).1.token.length c2) (takeA bndA 300 2000 100 (some b)).1.token.length (ints .u8 (takeA bndA 300 2000 100 (some b)).1.token) ∧
    IsW (endO (takeA bndA 300 2000 100 (some b)).2) v w' ∧ Below w.heap.size w w'
theorem row3 {W : World} {q : Nat} {u0 u1 u2 : Value} (h : W.heap[q]? = some (.cells #[u0, u1, u2] 62 (0, 0))) : W.cell? ⟨q, 0, none⟩ = some u0 ∧ W.cell? ⟨q, 1, none⟩ = some u1 ∧ W.cell? ⟨q, 2, none⟩ = some u2 :=
  ⟨cell_of_row _ _ 0 _ _ _ h, cell_of_row _ _ 1 _ _ _ h, cell_of_row _ _ 2 _ _ _ h⟩

theorem results_cell2 {P : Program} {fn : Func} {p a : Tmp} {ty : TypeId} (h : fn.results = #[.cell p ty, .tmp a]) (tmps : Array Value) (w : World) (g : Nat) (t : TypeId) (cs : Array Value) (fr : Nat × Nat) (d : TypeDesc)
    (hp : tmps.getD p undef = .pointer (some ⟨g, 0, none⟩)) (hg : w.heap[g]? = some (.cells cs t fr))
    (hu : P.underlying ty = some d) (hd : (match d with | .struct _ | .array _ _ => true | _ => false) = true) (hi : (P.info? ty).map (·.size) = some cs.size) :
    (results fn tmps).run P w = .ok (.tuple #[.agg cs, tmps.getD a undef]) w := by
  have hp' : tmps[p]?.getD undef = .pointer (some ⟨g, 0, none⟩) := by simpa using hp
  simp only [results, h]
  simp [Result.andThen, hp', asAddr, run_loadVar_row w g t ty cs fr d hg hu hd hi]

set_option maxRecDepth 100000 in
set_option maxHeartbeats 2000000 in
theorem requestIn_any (A0 : Option Addr) (n c : Nat) (b : List Int) (w : World) (hh : Has .u8 w w.heap.size A0 b) (hn : b.length = n) (hA : A0 = none → n = 0 ∧ c = 0) (hl : n ≤ 6000) (hf : Fit 8 b) :
    Calls Tryd.prog 56 #[.slice A0 n c] w (ReqP b w) := by
  have HI : Hid ((Tryd.prog.info? 24).map (·.size) = some 14) := by show _ = _; kernel_rfl
  have H := Lib.hid hh
  have HN := Lib.hid hn
  have HA := Lib.hid hA
  have HFt := Lib.hid hf
  clear hh hn hA hf
  go_enter Tryd.func56, Tryd.ntmps56
  go_wp2_with fail
  refine (new_any w.heap.size n c A0 b _ (H.out.below (below_box w (.cells zeroV 24) (.cells zeroV 24))) HN.out HA.out (by omega)).mono ?_
  rintro e w1 ⟨g, U, rfl, hp, hb⟩
  have HP := Lib.hid hp
  have HB := Lib.hid hb
  clear hp hb
  have B1 := Lib.hid (below_next (below_box w (.cells zeroV 24) (.cells zeroV 24)) HB.out)
  have R0 := Lib.hid (row_below (box_row w zeroV 24 (.cells zeroV 24)) HB.out)
  have R1 := Lib.hid (row_below (box_row2 w (.cells zeroV 24) zeroV 24) HB.out)
  clear HB
  go_wp2_with fail
  refine (numbersOf_any (w.heap.size + 1) _).mono ?_
  rintro e w2 ⟨A, rfl, hnum, hAb, hb⟩
  obtain ⟨B, hB⟩ : ∃ B, B = ((w.alloc (.cells zeroV 24)).alloc (.cells zeroV 24)).heap.size := ⟨_, rfl⟩
  have hB2 : B = w.heap.size + 2 := by rw [hB]; simp
  have HM0 : Hid (MdK B U g w.heap.size (w.heap.size + 1) A w b 0 w2) := by
    have hp := HP.out
    rw [← hB] at hp
    have hU : U ≤ w1.heap.size := hp.2.2.1
    exact ⟨RdLd.next (RdLd.some_ hp HFt.out (by rw [HN.out]; omega)) hb, row_below R1.out hb, row_below R0.out hb, hnum, below_next B1.out hb, ⟨Nat.le_refl _, Nat.lt_succ_self _, by omega, Nat.le_trans hU hAb⟩, rfl⟩
  obtain ⟨ga, hga⟩ : ∃ ga, ga = w.heap.size + 1 := ⟨_, rfl⟩
  rw [← hga] at HM0
  rw [← hga]
  clear hnum hAb hb hB hB2 hga HP R0 R1 B1
  go_wp2
  go_loopw [12] (fun i wr => ∃ k : Nat, k ≤ 11 ∧ i = .int .i64 k ∧ MdK B U g w.heap.size ga A w b k wr) (fun i _ => 11 - (intOf i).toNat)
  case atStart => exact ⟨0, by omega, rfl, HM0.out⟩
  case round =>
    obtain ⟨k, hk, rfl, hm⟩ := hrel
    have HM := Lib.hid hm
    clear hm HM0
    by_cases hlt : k < 11
    · have k0 := HM.out.num.c0 k hlt
      have k1 := HM.out.num.c1 k hlt
      have k2 := HM.out.num.c2 k hlt
      obtain ⟨lo, hlo⟩ : ∃ x, x = loA k := ⟨_, rfl⟩
      obtain ⟨hi, hhi⟩ : ∃ x, x = hiA k := ⟨_, rfl⟩
      rw [← hlo] at k1
      rw [← hhi] at k2
      have HLO := Lib.hid hlo
      have HHI := Lib.hid hhi
      clear hlo hhi
      go_wp2
      obtain ⟨q, hq⟩ : ∃ q, q = wr.heap.size := ⟨_, rfl⟩
      have hqr : (wr.alloc (.cells #[.pointer (some ⟨ga, k, none⟩), .int .i64 lo, .int .i64 hi] 62)).drew.heap[q]? = some (.cells #[.pointer (some ⟨ga, k, none⟩), .int .i64 lo, .int .i64 hi] 62 (0, 0)) := by rw [hq]; exact heap_alloc_new wr _
      have HM1 : Hid (MdK B U g w.heap.size ga A w b k (wr.alloc (.cells #[.pointer (some ⟨ga, k, none⟩), .int .i64 lo, .int .i64 hi] 62)).drew) := (Md.next HM.out (below_new wr _)).next (Below.refl _ _).drew
      have hqg : q ≠ ga ∧ q ≠ g := by
        have hr := HM.out.rd.lt
        have hl := HM.out.lt
        omega
      have HQ := Lib.hid hqg
      rw [← hq]
      generalize (wr.alloc (.cells #[.pointer (some ⟨ga, k, none⟩), .int .i64 lo, .int .i64 hi] 62)) = W1 at hqr HM1 ⊢
      have HS : Hid (∀ W : World, W.heap[q]? = some (.cells #[.pointer (some ⟨ga, k, none⟩), .int .i64 lo, .int .i64 hi] 62 (0, 0)) → W.cell? ⟨q, 0, none⟩ = some (.pointer (some ⟨ga, k, none⟩)) ∧ W.cell? ⟨q, 1, none⟩ = some (.int .i64 lo) ∧ W.cell? ⟨q, 2, none⟩ = some (.int .i64 hi)) := fun W h => row3 h
      have HQR := Lib.hid hqr
      clear hq hqg hqr k0 k1 k2 HM
      refine wp_region_held_drew (S := fun W => W.cell? ⟨q, 0, none⟩ = some (.pointer (some ⟨ga, k, none⟩)) ∧ W.cell? ⟨q, 1, none⟩ = some (.int .i64 lo) ∧ W.cell? ⟨q, 2, none⟩ = some (.int .i64 hi)) (by kernel_rfl) (HS.out _ HQR.out) (fun hHeld => ?_)
      refine takeD (i := 0) (d := some 16) (v := .pointer (some ⟨q, 0, none⟩)) rfl rfl (by kernel_rfl) (by kernel_rfl) (by kernel_rfl) (fun _ _ _ h => h) (Or.inl ⟨by rfl, (by intro W hS; go_simp)⟩) hHeld ?_
      try simp only [Act.put, List.setIfInBounds_toArray, List.set_cons_zero, List.set_cons_succ]
      refine takeD (i := 1) (d := some 17) (v := .pointer (some ⟨ga, k, none⟩)) rfl rfl (by kernel_rfl) (by kernel_rfl) (by kernel_rfl) (fun _ _ _ h => h) (Or.inl ⟨by rfl, (by intro W hS; go_simp)⟩) hHeld ?_
      try simp only [Act.put, List.setIfInBounds_toArray, List.set_cons_zero, List.set_cons_succ]
      refine takeD (i := 2) (d := some 18) (v := .pointer (some ⟨g, 0, none⟩)) rfl rfl (by kernel_rfl) (by kernel_rfl) (by kernel_rfl) (fun _ _ _ h => h) (Or.inl ⟨by rfl, (by intro W hS; go_simp)⟩) hHeld ?_
      try simp only [Act.put, List.setIfInBounds_toArray, List.set_cons_zero, List.set_cons_succ]
      refine takeD (i := 3) (d := some 19) (v := .pointer (some ⟨q, 1, none⟩)) rfl rfl (by kernel_rfl) (by kernel_rfl) (by kernel_rfl) (fun _ _ _ h => h) (Or.inl ⟨by rfl, (by intro W hS; go_simp)⟩) hHeld ?_
      try simp only [Act.put, List.setIfInBounds_toArray, List.set_cons_zero, List.set_cons_succ]
      refine takeD (i := 4) (d := some 20) (v := .int .i64 lo) rfl rfl (by kernel_rfl) (by kernel_rfl) (by kernel_rfl) (fun _ _ _ h => h) (Or.inl ⟨by rfl, (by intro W hS; go_simp)⟩) hHeld ?_
      try simp only [Act.put, List.setIfInBounds_toArray, List.set_cons_zero, List.set_cons_succ]
      refine takeD (i := 5) (d := some 21) (v := .pointer (some ⟨q, 2, none⟩)) rfl rfl (by kernel_rfl) (by kernel_rfl) (by kernel_rfl) (fun _ _ _ h => h) (Or.inl ⟨by rfl, (by intro W hS; go_simp)⟩) hHeld ?_
      try simp only [Act.put, List.setIfInBounds_toArray, List.set_cons_zero, List.set_cons_succ]
      refine takeD (i := 6) (d := some 22) (v := .int .i64 hi) rfl rfl (by kernel_rfl) (by kernel_rfl) (by kernel_rfl) (fun _ _ _ h => h) (Or.inl ⟨by rfl, (by intro W hS; go_simp)⟩) hHeld ?_
      try simp only [Act.put, List.setIfInBounds_toArray, List.set_cons_zero, List.set_cons_succ]
      refine wpAnyH_ready (rs := [7]) (by kernel_rfl) (by simp) (AllReadyH.cons rfl (fun K hK => ?_) AllReadyH.nil)
      go_simp
      refine (landN B U g _ lo hi _ HM1.out.rd).mono ?_
      rintro e w4 ⟨rfl, hr, hg⟩
      have U4 := Lib.hid (HM1.out.call hr hg)
      obtain ⟨v0, hc⟩ := U4.out.cell (k := k) (by omega)
      have hfz := frozen_of_row _ _ k _ _ U4.out.row
      have HQ4 := Lib.hid ((hg.block q (Array.getElem?_eq_some_iff.1 HQR.out).1 (fun e => by injection e with e; exact HQ.out.2 e)).trans HQR.out)
      rw [HLO.out, HHI.out] at U4
      rw [HLO.out, HHI.out]
      have HNX := Lib.hid (MdK.step hlt U4.out)
      have HQ5 := Lib.hid ((Below.heap_setCell w4 ⟨ga, k, none⟩ (.int .i64 (rN (rNs (bndA.take k) (some b)).2 (loA k) (hiA k)).1) q HQ.out.1).trans HQ4.out)
      generalize (rN (rNs (bndA.take k) (some b)).2 (loA k) (hiA k)).1 = x at HNX HQ5 ⊢
      clear hr hg U4 HM1 HQR
      rw [← HLO.out, ← HHI.out]
      refine hK.out _ _ (HS.out _ HQ4.out) (fun hHeld => ?_)
      clear hK K
      try simp only [Act.put, List.setIfInBounds_toArray, List.set_cons_zero, List.set_cons_succ]
      refine takeD (i := 8) (d := some 24) (v := .pointer (some ⟨ga, k, none⟩)) rfl rfl (by kernel_rfl) (by kernel_rfl) (by kernel_rfl) (fun _ _ _ h => h) (Or.inl ⟨by rfl, (by intro W hS; go_simp)⟩) hHeld ?_
      try simp only [Act.put, List.setIfInBounds_toArray, List.set_cons_zero, List.set_cons_succ]
      refine wpAnyH_ready (rs := [9]) (by kernel_rfl) (by simp) (AllReadyH.cons rfl (fun K hK => ?_) AllReadyH.nil)
      go_simp
      refine hK.out _ _ (HS.out _ HQ5.out) (fun hHeld => ?_)
      clear hK K
      try simp only [Act.put, List.setIfInBounds_toArray, List.set_cons_zero, List.set_cons_succ]
      refine wpAnyH_done (by kernel_rfl) ?_ _
      go_wp2
      go_roundw
      case rel => exact ⟨k + 1, by omega, by go_num, HNX.out⟩
      case measure => simp [intOf]; omega
    · have e : k = 11 := by omega
      subst e
      have hm := HM.out
      unfold MdK at hm
      rw [List.take_of_length_le (show bndA.length ≤ 11 from Nat.le_refl _)] at hm
      obtain ⟨xs, s11, e10⟩ : ∃ x t, rNs bndA (some b) = (x, t) := ⟨_, _, rfl⟩
      have hxs : xs.length = 11 := by have := rNs_len bndA (some b); rw [e10] at this; exact this
      rw [e10] at hm
      have T11 := Lib.hid hm
      have HXS := Lib.hid hxs
      obtain ⟨p0, s12, e11⟩ : ∃ x t, rB s11 300 = (x, t) := ⟨_, _, rfl⟩
      obtain ⟨p1, s13, e12⟩ : ∃ x t, rB s12 2000 = (x, t) := ⟨_, _, rfl⟩
      obtain ⟨p2, s14, e13⟩ : ∃ x t, rB s13 100 = (x, t) := ⟨_, _, rfl⟩
      have HT : Hid (takeA bndA 300 2000 100 (some b) = (ofNs xs (strOfNums p0) p1 p2, s14)) := by
        show _ = _
        unfold takeA
        simp only [e10, e11, e12, e13]
      have E11 := Lib.hid e11
      have E12 := Lib.hid e12
      have E13 := Lib.hid e13
      clear hm hxs e10 e11 e12 e13 HM
      go_wp2_with fail
      refine (landT B U g s11 300 _ T11.out.rd).mono ?_
      rw [E11.out]
      rintro e w12 ⟨rfl, hr, hg⟩
      have U12 := Lib.hid (T11.out.call hr hg)
      obtain ⟨v, hc⟩ := U12.out.cell (k := 11) (by omega)
      have hf := frozen_of_row _ _ 11 _ _ U12.out.row
      clear hr hg T11
      go_wp2_with fail
      have T12 := Lib.hid (U12.out.put 11 (.string (strOfNums p0)))
      clear hc hf U12
      refine (landB B U g s12 2000 _ T12.out.rd).mono ?_
      rw [E12.out]
      rintro e w13 ⟨A1, c1, rfl, ho, hr, hg⟩
      have U13 := Lib.hid (T12.out.call hr hg)
      have O13 := Lib.hid (own_down ho T12.out.bel.size)
      obtain ⟨v, hc⟩ := U13.out.cell (k := 12) (by omega)
      have hf := frozen_of_row _ _ 12 _ _ U13.out.row
      have G13 := Lib.hid ho
      have HB12 : Hid (w.heap.size ≤ (w12.setCell ⟨ga, 11, none⟩ (.string (strOfNums p0))).heap.size) := T12.out.bel.size
      have LG : Hid (g < (w12.setCell ⟨ga, 11, none⟩ (.string (strOfNums p0))).heap.size) := Nat.lt_of_lt_of_le T12.out.rd.lt.2.1 T12.out.rd.lt.2.2
      clear ho hr hg T12
      go_wp2_with fail
      have T13 := Lib.hid (U13.out.put 12 (.slice A1 p1.length c1))
      have P13 := Lib.hid (G13.out.kept (grown_cell w13 ga 12 (.slice A1 p1.length c1)) (own_ne_ask G13.out U13.out.row))
      clear hc hf U13 O13 G13
      generalize w13.setCell ⟨ga, 12, none⟩ (.slice A1 p1.length c1) = W13 at T13 P13 ⊢
      refine (landB B U g s13 100 _ T13.out.rd).mono ?_
      rw [E13.out]
      rintro e w14 ⟨A2, c2, rfl, ho, hr, hg⟩
      have U14 := Lib.hid (T13.out.call hr hg)
      have HB13 : Hid (w.heap.size ≤ W13.heap.size) := T13.out.bel.size
      have Q14x := Lib.hid ho
      have P14 := Lib.hid (P13.out.kept hg (own_ne_old P13.out LG.out))
      obtain ⟨v, hc⟩ := U14.out.cell (k := 13) (by omega)
      have hf := frozen_of_row _ _ 13 _ _ U14.out.row
      clear ho hr hg T13 P13
      go_wp2_with fail
      have T14 := Lib.hid (U14.out.put 13 (.slice A2 p2.length c2))
      have P15 := Lib.hid (P14.out.kept (grown_cell w14 ga 13 (.slice A2 p2.length c2)) (own_ne_ask P14.out U14.out.row))
      have Q15 := Lib.hid (Q14x.out.kept (grown_cell w14 ga 13 (.slice A2 p2.length c2)) (own_ne_ask Q14x.out U14.out.row))
      clear hc hf U14 P14 Q14x
      rw [nV_done HXS.out] at T14
      generalize w14.setCell ⟨ga, 13, none⟩ (.slice A2 p2.length c2) = W14 at T14 P15 Q15 ⊢
      have HO : Hid ((askVals (ofNs xs (strOfNums p0) p1 p2) A1 c1 A2 c2).all (·.oneCell') = true) := vals_one _ _ _ _ _
      obtain ⟨V, hV⟩ : ∃ V, V = askVals (ofNs xs (strOfNums p0) p1 p2) A1 c1 A2 c2 := ⟨_, rfl⟩
      have HV := Lib.hid hV
      rw [← hV] at T14 HO
      obtain ⟨v0, v1, v2, v3, v4, v5, v6, v7, v8, v9, v10, v11, v12, v13, hVL⟩ := fourteen T14.out.sz
      have HVL := Lib.hid hVL
      have HVs : Hid (some V.size = some 14) := by show _ = _; rw [T14.out.sz]
      rw [hVL] at T14
      have HS : Hid (∀ W : World, W.heap[ga]? = some (.cells #[v0, v1, v2, v3, v4, v5, v6, v7, v8, v9, v10, v11, v12, v13] 24 (0, 0)) → W.cell? ⟨ga, 0, none⟩ = some v0 ∧ W.cell? ⟨ga, 1, none⟩ = some v1 ∧ W.cell? ⟨ga, 2, none⟩ = some v2 ∧ W.cell? ⟨ga, 3, none⟩ = some v3 ∧ W.cell? ⟨ga, 4, none⟩ = some v4 ∧ W.cell? ⟨ga, 5, none⟩ = some v5 ∧ W.cell? ⟨ga, 6, none⟩ = some v6 ∧ W.cell? ⟨ga, 7, none⟩ = some v7 ∧ W.cell? ⟨ga, 8, none⟩ = some v8 ∧ W.cell? ⟨ga, 9, none⟩ = some v9 ∧ W.cell? ⟨ga, 10, none⟩ = some v10 ∧ W.cell? ⟨ga, 11, none⟩ = some v11 ∧ W.cell? ⟨ga, 12, none⟩ = some v12 ∧ W.cell? ⟨ga, 13, none⟩ = some v13) := fun W h => ⟨cell_of_row _ _ 0 _ _ _ h, cell_of_row _ _ 1 _ _ _ h, cell_of_row _ _ 2 _ _ _ h, cell_of_row _ _ 3 _ _ _ h, cell_of_row _ _ 4 _ _ _ h, cell_of_row _ _ 5 _ _ _ h, cell_of_row _ _ 6 _ _ _ h, cell_of_row _ _ 7 _ _ _ h, cell_of_row _ _ 8 _ _ _ h, cell_of_row _ _ 9 _ _ _ h, cell_of_row _ _ 10 _ _ _ h, cell_of_row _ _ 11 _ _ _ h, cell_of_row _ _ 12 _ _ _ h, cell_of_row _ _ 13 _ _ _ h⟩
      clear hV hVL
      refine wp_region_held_drew (S := fun W => W.cell? ⟨ga, 0, none⟩ = some v0 ∧ W.cell? ⟨ga, 1, none⟩ = some v1 ∧ W.cell? ⟨ga, 2, none⟩ = some v2 ∧ W.cell? ⟨ga, 3, none⟩ = some v3 ∧ W.cell? ⟨ga, 4, none⟩ = some v4 ∧ W.cell? ⟨ga, 5, none⟩ = some v5 ∧ W.cell? ⟨ga, 6, none⟩ = some v6 ∧ W.cell? ⟨ga, 7, none⟩ = some v7 ∧ W.cell? ⟨ga, 8, none⟩ = some v8 ∧ W.cell? ⟨ga, 9, none⟩ = some v9 ∧ W.cell? ⟨ga, 10, none⟩ = some v10 ∧ W.cell? ⟨ga, 11, none⟩ = some v11 ∧ W.cell? ⟨ga, 12, none⟩ = some v12 ∧ W.cell? ⟨ga, 13, none⟩ = some v13) (by kernel_rfl) (HS.out _ T14.out.row) (fun hHeld => ?_)
      refine takeD (i := 0) (d := some 35) (v := .agg #[v0, v1, v2, v3, v4, v5, v6, v7, v8, v9, v10, v11, v12, v13]) rfl rfl (by kernel_rfl) (by kernel_rfl) (by kernel_rfl) (fun _ _ _ h => h) (Or.inl ⟨by rfl, (by intro W hS; go_simp)⟩) hHeld ?_
      try simp only [Act.put, List.setIfInBounds_toArray, List.set_cons_zero, List.set_cons_succ]
      refine takeD (i := 1) (d := some 36) (v := .pointer (some ⟨g, 0, none⟩)) rfl rfl (by kernel_rfl) (by kernel_rfl) (by kernel_rfl) (fun _ _ _ h => h) (Or.inl ⟨by rfl, (by intro W hS; go_simp)⟩) hHeld ?_
      try simp only [Act.put, List.setIfInBounds_toArray, List.set_cons_zero, List.set_cons_succ]
      refine wpAnyH_ready (rs := [2]) (by kernel_rfl) (by simp) (AllReadyH.cons rfl (fun K hK => ?_) AllReadyH.nil)
      go_simp
      refine (landE B U g s14 _ (T14.out.next (Below.refl _ _).drew).rd).mono ?_
      rintro e w15 ⟨ve, rfl, hve, hb⟩
      have T15 := Lib.hid ((T14.out.next (Below.refl _ _).drew).next hb)
      have P16 := Lib.hid (own_next (own_next P15.out (Below.refl _ _).drew) hb)
      have Q16 := Lib.hid (own_next (own_next Q15.out (Below.refl _ _).drew) hb)
      have HE := Lib.hid hve
      have HZ2 := Lib.hid T15.out.res
      have HG := T15.out.lt
      have HS5 := HS.out _ T15.out.row
      clear hb hve T14 P15 Q15
      refine hK.out _ _ HS5 (fun hHeld => ?_)
      clear hK K HS5
      try simp only [Act.put, List.setIfInBounds_toArray, List.set_cons_zero, List.set_cons_succ]
      refine wpAnyH_ready (rs := [3]) (by kernel_rfl) (by simp) (AllReadyH.cons rfl (fun K hK => ?_) AllReadyH.nil)
      refine step_store_row rfl 24 _ _ rfl w.heap.size #[v0, v1, v2, v3, v4, v5, v6, v7, v8, v9, v10, v11, v12, v13] rfl rfl 24 zeroV HZ2.out (by rw [← HVL.out, HVs.out]; exact HI.out) rfl (by rw [← HVL.out]; exact HO.out) ?_
      refine hK.out _ _ (HS.out _ ((setRow_other _ _ _ _ (by omega)).trans T15.out.row)) (fun hHeld => ?_)
      clear hK K
      refine takeD (i := 4) (d := some 3) (v := ve) rfl rfl (by kernel_rfl) (by kernel_rfl) (by kernel_rfl) (fun _ _ _ h => h) (Or.inl ⟨by rfl, (by intro W hS; go_simp)⟩) hHeld ?_
      refine wpAnyH_done (by kernel_rfl) ?_ _
      go_wp2
      rw [← HVL.out]
      have gS := grown_setRow w15 w.heap.size V
      have hrow := setRow_heap w15 w.heap.size zeroV V 24 (0, 0) HZ2.out
      refine bodyPost_ret (v := .tuple #[.agg V, ve]) ?_ rfl ?_
      · refine Eq.trans (results_cell2 (p := 2) (a := 3) (ty := 24) ?h _ _ w.heap.size 24 V (0, 0) _ ?hp hrow Tryd.underlying24 rfl (by rw [HVs.out]; exact HI.out)) rfl
        case h => rfl
        case hp => rfl
      · unfold ReqP
        rw [HT.out]
        refine ⟨A1, c1, A2, c2, ve, by rw [HV.out], ?_, ?_, HE.out.put V HZ2.out, ?_⟩
        · exact (own_down P16.out HB12.out).kept gS (own_ne_ask P16.out HZ2.out)
        · exact (own_down Q16.out HB13.out).kept gS (own_ne_ask Q16.out HZ2.out)
        · exact below_setRow T15.out.bel (Nat.le_refl _) V
end Go.Proofs.YtidpihpddkfhgaaDoor
