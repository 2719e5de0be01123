/- Contract: the landed code's Same. -/
import Derived.Test.YtidpihpddkfhgaaDoorPx
import Derived.Test.YtidpihpddkfhgaaDoorAk
namespace Go.Proofs.YtidpihpddkfhgaaDoor
open Go.RowKit Slices Go.Proofs.YtidpihpddkfhgaaDoor.Bit

theorem same_parts (a b : AskV) : a = b ↔ numsA a = numsA b ∧ a.name = b.name ∧ a.bytes = b.bytes ∧ a.token = b.token := by
  constructor
  · rintro rfl
    exact ⟨rfl, rfl, rfl, rfl⟩
  · rintro ⟨h1, h2, h3, h4⟩
    rw [← of_numsA a, ← of_numsA b, h1, h2, h3, h4]
theorem str_dec (s t : ByteArray) : (s.toList == t.toList) = decide (s = t) := by
  by_cases e : s = t
  · subst e
    rw [decide_eq_true rfl]
    exact beq_self_eq_true _
  · rw [decide_eq_false e]
    exact str_ne e
theorem same_and (a b : AskV) : sameV a b = (decide (numsA a = numsA b) && (a.name.toList == b.name.toList) && decide (a.bytes = b.bytes) && decide (a.token = b.token)) := by
  rw [str_dec, Bool.eq_iff_iff, sameV_iff, same_parts]
  simp only [Bool.and_eq_true, decide_eq_true_eq, and_assoc]
theorem takeD {P : Program} {md : Region.Mode} {ops : Array Oper} {Q : Exit → Act → World → Prop} {S : World → Prop} {i : Nat} {oi : Oper} {d : Option Tmp} {v : Value} {fuel : Nat} {listed : Array Bool} {a : Act} {w : World} (hi : ops[i]? = some oi) (hd : oi.dst = d)
    (hs : Region.noSelect ops = true) (hf : Region.free md ops listed i = true) (hr : (Region.ready md ops listed).contains i = true)
    (hQ : ∀ c a w, Q (.panic c) (a.put d v) w → Q (.panic c) a w) (hy : YieldsIf P ops S oi v a) (hS : S w)
    (h : wpAnyH P md ops Q S fuel (listed.setIfInBounds i true) (a.put d v) w) : wpAnyH P md ops Q S (fuel + 1) listed a w := by
  subst hd
  exact wpAnyH_take hi hs hf hr hQ hy hS h
/-- a request's row of numbers -/
def ValP (w : World) (ns : List Int) (e : Ending) (w' : World) : Prop := ∃ A c, e = .returned (.slice A 11 c) ∧ w'.ownsRow w.heap.size 3 1 (.slice A 11 c) 11 (ints .i64 ns) ∧ Below w.heap.size w w'
set_option maxRecDepth 100000 in
set_option maxHeartbeats 8000000 in
theorem sameP_any (a b : AskV) (A1 A2 D1 D2 : Option Addr) (c1 c2 d1 d2 : Nat) (w : World) (h : AskIn w w.heap.size a A1 c1 A2 c2) (h' : AskIn w w.heap.size b D1 d1 D2 d2) (wa : WideA a) (wb : WideA b) :
    Calls Tryd.prog 14 #[.agg (askVals a A1 c1 A2 c2), .agg (askVals b D1 d1 D2 d2)] w fun e w' => e = .returned (.bool (sameV a b)) ∧ Below w.heap.size w w' := by
  have HI : Hid ((Tryd.prog.info? 24).map (·.size) = some 14) := by show _ = _; kernel_rfl
  obtain ⟨R, hR⟩ : ∃ R, R = sameV a b := ⟨_, rfl⟩
  have hq : R = _ := hR.trans (same_and a b)
  obtain ⟨W0, hW0⟩ : ∃ W0, W0 = (w.alloc (.cells (askVals a A1 c1 A2 c2) 24)).alloc (.cells (askVals b D1 d1 D2 d2) 24) := ⟨_, rfl⟩
  have B4 : Hid (Below w.heap.size w W0) := by rw [hW0]; exact below_box w (.cells (askVals a A1 c1 A2 c2) 24) (.cells (askVals b D1 d1 D2 d2) 24)
  have HRa : Hid (W0.heap[w.heap.size]? = some (.cells (askVals a A1 c1 A2 c2) 24 (0, 0))) := by rw [hW0]; exact box_row w (askVals a A1 c1 A2 c2) 24 (.cells (askVals b D1 d1 D2 d2) 24)
  have HRb : Hid (W0.heap[w.heap.size + 1]? = some (.cells (askVals b D1 d1 D2 d2) 24 (0, 0))) := by rw [hW0]; exact box_row2 w (.cells (askVals a A1 c1 A2 c2) 24) (askVals b D1 d1 D2 d2) 24
  have C1 : Hid (∀ W, Calls Tryd.prog 33 #[.agg (askVals a A1 c1 A2 c2)] W (ValP W (numsA a))) := fun W => valuesOf_any a A1 A2 c1 c2 W
  have C2 : Hid (∀ W, Calls Tryd.prog 33 #[.agg (askVals b D1 d1 D2 d2)] W (ValP W (numsA b))) := fun W => valuesOf_any b D1 D2 d1 d2 W
  have C3 : Hid (∀ (X Y : Option Addr) (cx cy : Nat) (W : World), Has .i64 W W.heap.size X (numsA a) → Has .i64 W W.heap.size Y (numsA b) → Calls Tryd.prog 32 #[.slice X 11 cx, .slice Y 11 cy] W fun e w' => e = .returned (.bool (decide (numsA a = numsA b))) ∧ Below W.heap.size W w') :=
    fun X Y cx cy W hx hy => (sEqual_any X Y cx cy 11 11 W.heap.size (numsA a) (numsA b) W rfl rfl (by omega) (by omega) hx hy).mono fun e w' q => ⟨q.1, by obtain ⟨k, e⟩ := q.2; rw [e]; exact below_drewN (Below.refl _ _) k⟩
  have C4 : Hid (∀ W, Below W0.heap.size W0 W → Calls Tryd.prog 34 #[.slice A1 a.bytes.length c1, .slice D1 b.bytes.length d1] W fun e w' => e = .returned (.bool (decide (a.bytes = b.bytes))) ∧ Below W.heap.size W w') :=
    fun W hb => (bEqual_any A1 D1 c1 d1 _ _ W.heap.size _ _ W rfl rfl wa.2.1 wb.2.1 (h.next (below_next B4.out hb)).hb (h'.next (below_next B4.out hb)).hb).mono fun e w' q => ⟨q.1, by rw [← q.2]; exact Below.refl _ _⟩
  have C5 : Hid (∀ W, Below W0.heap.size W0 W → Calls Tryd.prog 34 #[.slice A2 a.token.length c2, .slice D2 b.token.length d2] W fun e w' => e = .returned (.bool (decide (a.token = b.token))) ∧ Below W.heap.size W w') :=
    fun W hb => (bEqual_any A2 D2 c2 d2 _ _ W.heap.size _ _ W rfl rfl wa.2.2 wb.2.2 (h.next (below_next B4.out hb)).ht (h'.next (below_next B4.out hb)).ht).mono fun e w' q => ⟨q.1, by rw [← q.2]; exact Below.refl _ _⟩
  obtain ⟨ga, hga⟩ : ∃ ga, ga = w.heap.size := ⟨_, rfl⟩
  obtain ⟨gb, hgb⟩ : ∃ gb, gb = w.heap.size + 1 := ⟨_, rfl⟩
  rw [← hga] at HRa
  rw [← hgb] at HRb
  unfold askVals at C1 C2 HRa HRb hW0
  rw [← hR]
  unfold askVals
  have HF : Hid (∀ W, Below W0.heap.size W0 W → Below W0.heap.size W0 W ∧ W.cell? ⟨ga, 0, none⟩ = some (.int .i64 a.who) ∧ W.cell? ⟨ga, 1, none⟩ = some (.int .i64 a.nonce) ∧ W.cell? ⟨ga, 2, none⟩ = some (.int .i64 a.op) ∧ W.cell? ⟨ga, 3, none⟩ = some (.int .i64 a.tenant) ∧ W.cell? ⟨ga, 4, none⟩ = some (.int .i64 a.key) ∧ W.cell? ⟨ga, 5, none⟩ = some (.int .i64 a.version) ∧ W.cell? ⟨ga, 6, none⟩ = some (.int .i64 a.set) ∧ W.cell? ⟨ga, 7, none⟩ = some (.int .i64 a.grant) ∧ W.cell? ⟨ga, 8, none⟩ = some (.int .i64 a.to) ∧ W.cell? ⟨ga, 9, none⟩ = some (.int .i64 a.ops) ∧ W.cell? ⟨ga, 10, none⟩ = some (.int .i64 a.till) ∧ W.cell? ⟨ga, 11, none⟩ = some (.string a.name) ∧ W.cell? ⟨ga, 12, none⟩ = some (.slice A1 a.bytes.length c1) ∧ W.cell? ⟨ga, 13, none⟩ = some (.slice A2 a.token.length c2) ∧ W.cell? ⟨gb, 0, none⟩ = some (.int .i64 b.who) ∧ W.cell? ⟨gb, 1, none⟩ = some (.int .i64 b.nonce) ∧ W.cell? ⟨gb, 2, none⟩ = some (.int .i64 b.op) ∧ W.cell? ⟨gb, 3, none⟩ = some (.int .i64 b.tenant) ∧ W.cell? ⟨gb, 4, none⟩ = some (.int .i64 b.key) ∧ W.cell? ⟨gb, 5, none⟩ = some (.int .i64 b.version) ∧ W.cell? ⟨gb, 6, none⟩ = some (.int .i64 b.set) ∧ W.cell? ⟨gb, 7, none⟩ = some (.int .i64 b.grant) ∧ W.cell? ⟨gb, 8, none⟩ = some (.int .i64 b.to) ∧ W.cell? ⟨gb, 9, none⟩ = some (.int .i64 b.ops) ∧ W.cell? ⟨gb, 10, none⟩ = some (.int .i64 b.till) ∧ W.cell? ⟨gb, 11, none⟩ = some (.string b.name) ∧ W.cell? ⟨gb, 12, none⟩ = some (.slice D1 b.bytes.length d1) ∧ W.cell? ⟨gb, 13, none⟩ = some (.slice D2 b.token.length d2)) := fun W hb => ⟨hb, cell_of_row _ _ 0 _ _ _ (row_below HRa.out hb), cell_of_row _ _ 1 _ _ _ (row_below HRa.out hb), cell_of_row _ _ 2 _ _ _ (row_below HRa.out hb), cell_of_row _ _ 3 _ _ _ (row_below HRa.out hb), cell_of_row _ _ 4 _ _ _ (row_below HRa.out hb), cell_of_row _ _ 5 _ _ _ (row_below HRa.out hb), cell_of_row _ _ 6 _ _ _ (row_below HRa.out hb), cell_of_row _ _ 7 _ _ _ (row_below HRa.out hb), cell_of_row _ _ 8 _ _ _ (row_below HRa.out hb), cell_of_row _ _ 9 _ _ _ (row_below HRa.out hb), cell_of_row _ _ 10 _ _ _ (row_below HRa.out hb), cell_of_row _ _ 11 _ _ _ (row_below HRa.out hb), cell_of_row _ _ 12 _ _ _ (row_below HRa.out hb), cell_of_row _ _ 13 _ _ _ (row_below HRa.out hb), cell_of_row _ _ 0 _ _ _ (row_below HRb.out hb), cell_of_row _ _ 1 _ _ _ (row_below HRb.out hb), cell_of_row _ _ 2 _ _ _ (row_below HRb.out hb), cell_of_row _ _ 3 _ _ _ (row_below HRb.out hb), cell_of_row _ _ 4 _ _ _ (row_below HRb.out hb), cell_of_row _ _ 5 _ _ _ (row_below HRb.out hb), cell_of_row _ _ 6 _ _ _ (row_below HRb.out hb), cell_of_row _ _ 7 _ _ _ (row_below HRb.out hb), cell_of_row _ _ 8 _ _ _ (row_below HRb.out hb), cell_of_row _ _ 9 _ _ _ (row_below HRb.out hb), cell_of_row _ _ 10 _ _ _ (row_below HRb.out hb), cell_of_row _ _ 11 _ _ _ (row_below HRb.out hb), cell_of_row _ _ 12 _ _ _ (row_below HRb.out hb), cell_of_row _ _ 13 _ _ _ (row_below HRb.out hb)⟩
  obtain ⟨_, p0, p1, p2, p3, p4, p5, p6, p7, p8, p9, p10, p11, p12, p13, r0, r1, r2, r3, r4, r5, r6, r7, r8, r9, r10, r11, r12, r13⟩ := HF.out _ (Below.refl _ _)
  have D0 : Below W0.heap.size W0 W0 := Below.refl _ _
  have D1' : Below W0.heap.size W0 W0.drew := (Below.refl _ _).drew
  obtain ⟨P1, h1⟩ : ∃ p, p = decide (numsA a = numsA b) := ⟨_, rfl⟩
  obtain ⟨P3, h3⟩ : ∃ p, p = decide (a.bytes = b.bytes) := ⟨_, rfl⟩
  obtain ⟨P4, h4⟩ : ∃ p, p = decide (a.token = b.token) := ⟨_, rfl⟩
  rw [← h1] at C3 hq
  rw [← h3] at C4 hq
  rw [← h4] at C5 hq
  clear h h' wa wb hR h1 h3 h4
  go_enter Tryd.func14, Tryd.ntmps14
  go_wp2_with fail
  rw [← hgb, ← hga, ← hW0]
  clear hgb hga hW0
  refine wp_region_held_drew (S := fun W => Below W0.heap.size W0 W ∧ W.cell? ⟨ga, 0, none⟩ = some (.int .i64 a.who) ∧ W.cell? ⟨ga, 1, none⟩ = some (.int .i64 a.nonce) ∧ W.cell? ⟨ga, 2, none⟩ = some (.int .i64 a.op) ∧ W.cell? ⟨ga, 3, none⟩ = some (.int .i64 a.tenant) ∧ W.cell? ⟨ga, 4, none⟩ = some (.int .i64 a.key) ∧ W.cell? ⟨ga, 5, none⟩ = some (.int .i64 a.version) ∧ W.cell? ⟨ga, 6, none⟩ = some (.int .i64 a.set) ∧ W.cell? ⟨ga, 7, none⟩ = some (.int .i64 a.grant) ∧ W.cell? ⟨ga, 8, none⟩ = some (.int .i64 a.to) ∧ W.cell? ⟨ga, 9, none⟩ = some (.int .i64 a.ops) ∧ W.cell? ⟨ga, 10, none⟩ = some (.int .i64 a.till) ∧ W.cell? ⟨ga, 11, none⟩ = some (.string a.name) ∧ W.cell? ⟨ga, 12, none⟩ = some (.slice A1 a.bytes.length c1) ∧ W.cell? ⟨ga, 13, none⟩ = some (.slice A2 a.token.length c2) ∧ W.cell? ⟨gb, 0, none⟩ = some (.int .i64 b.who) ∧ W.cell? ⟨gb, 1, none⟩ = some (.int .i64 b.nonce) ∧ W.cell? ⟨gb, 2, none⟩ = some (.int .i64 b.op) ∧ W.cell? ⟨gb, 3, none⟩ = some (.int .i64 b.tenant) ∧ W.cell? ⟨gb, 4, none⟩ = some (.int .i64 b.key) ∧ W.cell? ⟨gb, 5, none⟩ = some (.int .i64 b.version) ∧ W.cell? ⟨gb, 6, none⟩ = some (.int .i64 b.set) ∧ W.cell? ⟨gb, 7, none⟩ = some (.int .i64 b.grant) ∧ W.cell? ⟨gb, 8, none⟩ = some (.int .i64 b.to) ∧ W.cell? ⟨gb, 9, none⟩ = some (.int .i64 b.ops) ∧ W.cell? ⟨gb, 10, none⟩ = some (.int .i64 b.till) ∧ W.cell? ⟨gb, 11, none⟩ = some (.string b.name) ∧ W.cell? ⟨gb, 12, none⟩ = some (.slice D1 b.bytes.length d1) ∧ W.cell? ⟨gb, 13, none⟩ = some (.slice D2 b.token.length d2)) (by kernel_rfl) (HF.out _ D1') (fun hHeld => ?_)
  refine takeD (i := 0) (d := some 5) (v := .agg #[.int .i64 a.who, .int .i64 a.nonce, .int .i64 a.op, .int .i64 a.tenant, .int .i64 a.key, .int .i64 a.version, .int .i64 a.set, .int .i64 a.grant, .int .i64 a.to, .int .i64 a.ops, .int .i64 a.till, .string a.name, .slice A1 a.bytes.length c1, .slice A2 a.token.length c2]) rfl rfl (by kernel_rfl) (by kernel_rfl) (by kernel_rfl) (fun _ _ _ h => h) (Or.inl ⟨by rfl, (by intro W hS; go_simp)⟩) hHeld ?_
  try simp only [Act.put, List.setIfInBounds_toArray, List.set_cons_zero, List.set_cons_succ]
  refine takeD (i := 2) (d := some 7) (v := .agg #[.int .i64 b.who, .int .i64 b.nonce, .int .i64 b.op, .int .i64 b.tenant, .int .i64 b.key, .int .i64 b.version, .int .i64 b.set, .int .i64 b.grant, .int .i64 b.to, .int .i64 b.ops, .int .i64 b.till, .string b.name, .slice D1 b.bytes.length d1, .slice D2 b.token.length d2]) rfl rfl (by kernel_rfl) (by kernel_rfl) (by kernel_rfl) (fun _ _ _ h => h) (Or.inl ⟨by rfl, (by intro W hS; go_simp)⟩) hHeld ?_
  try simp only [Act.put, List.setIfInBounds_toArray, List.set_cons_zero, List.set_cons_succ]
  refine wpAnyH_ready (rs := [1]) (by kernel_rfl) (by simp) (AllReadyH.cons rfl (fun K hK => ?_) AllReadyH.nil)
  go_simp
  refine (C1.out _).mono ?_
  rintro e wk ⟨X, cx, rfl, ho, hb⟩
  have hbk := below_next D1' hb
  have HO := Lib.hid ho
  clear ho hb
  refine hK.out _ _ (HF.out _ hbk) (fun hHeld => ?_)
  clear hK K
  try simp only [Act.put, List.setIfInBounds_toArray, List.set_cons_zero, List.set_cons_succ]
  refine wpAnyH_ready (rs := [3]) (by kernel_rfl) (by simp) (AllReadyH.cons rfl (fun K hK => ?_) AllReadyH.nil)
  go_simp
  refine (C2.out _).mono ?_
  rintro e wk2 ⟨Y, cy, rfl, ho, hb⟩
  replace hbk := below_next hbk hb
  have HO2 := Lib.hid ho
  have HO1 := Lib.hid (own_next HO.out hb)
  clear ho hb HO
  refine hK.out _ _ (HF.out _ hbk) (fun hHeld => ?_)
  clear hK K
  try simp only [Act.put, List.setIfInBounds_toArray, List.set_cons_zero, List.set_cons_succ]
  refine wpAnyH_ready (rs := [4]) (by kernel_rfl) (by simp) (AllReadyH.cons rfl (fun K hK => ?_) AllReadyH.nil)
  go_simp
  refine (C3.out _ _ _ _ _ (own_readn rfl HO1.out) (own_readn rfl HO2.out)).mono ?_
  rintro e wk3 ⟨rfl, hb⟩
  replace hbk := below_next hbk hb
  clear hb
  refine hK.out _ _ (HF.out _ hbk) (fun hHeld => ?_)
  clear hK K
  try simp only [Act.put, List.setIfInBounds_toArray, List.set_cons_zero, List.set_cons_succ]
  refine takeD (i := 5) (d := some 10) (v := .bool P1) rfl rfl (by kernel_rfl) (by kernel_rfl) (by kernel_rfl) (fun _ _ _ h => h) (Or.inl ⟨by rfl, (by intro W hS; go_simp)⟩) hHeld ?_
  try simp only [Act.put, List.setIfInBounds_toArray, List.set_cons_zero, List.set_cons_succ]
  cases P1 with
  | false =>
    have HT : Hid (R = false) := by show R = _; rw [hq]; simp
    clear hq
    refine takeD (i := 6) (d := some 11) (v := undef) rfl rfl (by kernel_rfl) (by kernel_rfl) (by kernel_rfl) (fun _ _ _ h => h) (Or.inr ⟨by rfl, rfl⟩) hHeld ?_
    try simp only [Act.put, List.setIfInBounds_toArray, List.set_cons_zero, List.set_cons_succ]
    refine takeD (i := 7) (d := some 12) (v := undef) rfl rfl (by kernel_rfl) (by kernel_rfl) (by kernel_rfl) (fun _ _ _ h => h) (Or.inr ⟨by rfl, rfl⟩) hHeld ?_
    try simp only [Act.put, List.setIfInBounds_toArray, List.set_cons_zero, List.set_cons_succ]
    refine takeD (i := 8) (d := some 13) (v := undef) rfl rfl (by kernel_rfl) (by kernel_rfl) (by kernel_rfl) (fun _ _ _ h => h) (Or.inr ⟨by rfl, rfl⟩) hHeld ?_
    try simp only [Act.put, List.setIfInBounds_toArray, List.set_cons_zero, List.set_cons_succ]
    refine takeD (i := 9) (d := some 14) (v := undef) rfl rfl (by kernel_rfl) (by kernel_rfl) (by kernel_rfl) (fun _ _ _ h => h) (Or.inr ⟨by rfl, rfl⟩) hHeld ?_
    try simp only [Act.put, List.setIfInBounds_toArray, List.set_cons_zero, List.set_cons_succ]
    refine takeD (i := 10) (d := some 15) (v := undef) rfl rfl (by kernel_rfl) (by kernel_rfl) (by kernel_rfl) (fun _ _ _ h => h) (Or.inr ⟨by rfl, rfl⟩) hHeld ?_
    try simp only [Act.put, List.setIfInBounds_toArray, List.set_cons_zero, List.set_cons_succ]
    refine takeD (i := 11) (d := some 16) (v := .bool false) rfl rfl (by kernel_rfl) (by kernel_rfl) (by kernel_rfl) (fun _ _ _ h => h) (Or.inl ⟨by rfl, (by intro W hS; go_simp)⟩) hHeld ?_
    try simp only [Act.put, List.setIfInBounds_toArray, List.set_cons_zero, List.set_cons_succ]
    refine takeD (i := 12) (d := some 17) (v := .bool false) rfl rfl (by kernel_rfl) (by kernel_rfl) (by kernel_rfl) (fun _ _ _ h => h) (Or.inl ⟨by rfl, (by intro W hS; go_simp)⟩) hHeld ?_
    try simp only [Act.put, List.setIfInBounds_toArray, List.set_cons_zero, List.set_cons_succ]
    refine takeD (i := 13) (d := some 18) (v := undef) rfl rfl (by kernel_rfl) (by kernel_rfl) (by kernel_rfl) (fun _ _ _ h => h) (Or.inr ⟨by rfl, rfl⟩) hHeld ?_
    try simp only [Act.put, List.setIfInBounds_toArray, List.set_cons_zero, List.set_cons_succ]
    refine takeD (i := 14) (d := some 19) (v := undef) rfl rfl (by kernel_rfl) (by kernel_rfl) (by kernel_rfl) (fun _ _ _ h => h) (Or.inr ⟨by rfl, rfl⟩) hHeld ?_
    try simp only [Act.put, List.setIfInBounds_toArray, List.set_cons_zero, List.set_cons_succ]
    refine takeD (i := 15) (d := some 20) (v := undef) rfl rfl (by kernel_rfl) (by kernel_rfl) (by kernel_rfl) (fun _ _ _ h => h) (Or.inr ⟨by rfl, rfl⟩) hHeld ?_
    try simp only [Act.put, List.setIfInBounds_toArray, List.set_cons_zero, List.set_cons_succ]
    refine takeD (i := 16) (d := some 21) (v := undef) rfl rfl (by kernel_rfl) (by kernel_rfl) (by kernel_rfl) (fun _ _ _ h => h) (Or.inr ⟨by rfl, rfl⟩) hHeld ?_
    try simp only [Act.put, List.setIfInBounds_toArray, List.set_cons_zero, List.set_cons_succ]
    refine takeD (i := 17) (d := some 22) (v := undef) rfl rfl (by kernel_rfl) (by kernel_rfl) (by kernel_rfl) (fun _ _ _ h => h) (Or.inr ⟨by rfl, rfl⟩) hHeld ?_
    try simp only [Act.put, List.setIfInBounds_toArray, List.set_cons_zero, List.set_cons_succ]
    refine takeD (i := 18) (d := some 23) (v := .bool false) rfl rfl (by kernel_rfl) (by kernel_rfl) (by kernel_rfl) (fun _ _ _ h => h) (Or.inl ⟨by rfl, (by intro W hS; go_simp)⟩) hHeld ?_
    try simp only [Act.put, List.setIfInBounds_toArray, List.set_cons_zero, List.set_cons_succ]
    refine takeD (i := 19) (d := some 24) (v := .bool false) rfl rfl (by kernel_rfl) (by kernel_rfl) (by kernel_rfl) (fun _ _ _ h => h) (Or.inl ⟨by rfl, (by intro W hS; go_simp)⟩) hHeld ?_
    try simp only [Act.put, List.setIfInBounds_toArray, List.set_cons_zero, List.set_cons_succ]
    refine takeD (i := 20) (d := some 25) (v := undef) rfl rfl (by kernel_rfl) (by kernel_rfl) (by kernel_rfl) (fun _ _ _ h => h) (Or.inr ⟨by rfl, rfl⟩) hHeld ?_
    try simp only [Act.put, List.setIfInBounds_toArray, List.set_cons_zero, List.set_cons_succ]
    refine takeD (i := 21) (d := some 26) (v := undef) rfl rfl (by kernel_rfl) (by kernel_rfl) (by kernel_rfl) (fun _ _ _ h => h) (Or.inr ⟨by rfl, rfl⟩) hHeld ?_
    try simp only [Act.put, List.setIfInBounds_toArray, List.set_cons_zero, List.set_cons_succ]
    refine takeD (i := 22) (d := some 27) (v := undef) rfl rfl (by kernel_rfl) (by kernel_rfl) (by kernel_rfl) (fun _ _ _ h => h) (Or.inr ⟨by rfl, rfl⟩) hHeld ?_
    try simp only [Act.put, List.setIfInBounds_toArray, List.set_cons_zero, List.set_cons_succ]
    refine takeD (i := 23) (d := some 28) (v := undef) rfl rfl (by kernel_rfl) (by kernel_rfl) (by kernel_rfl) (fun _ _ _ h => h) (Or.inr ⟨by rfl, rfl⟩) hHeld ?_
    try simp only [Act.put, List.setIfInBounds_toArray, List.set_cons_zero, List.set_cons_succ]
    refine takeD (i := 24) (d := some 29) (v := undef) rfl rfl (by kernel_rfl) (by kernel_rfl) (by kernel_rfl) (fun _ _ _ h => h) (Or.inr ⟨by rfl, rfl⟩) hHeld ?_
    try simp only [Act.put, List.setIfInBounds_toArray, List.set_cons_zero, List.set_cons_succ]
    refine takeD (i := 25) (d := some 30) (v := .bool false) rfl rfl (by kernel_rfl) (by kernel_rfl) (by kernel_rfl) (fun _ _ _ h => h) (Or.inl ⟨by rfl, (by intro W hS; go_simp)⟩) hHeld ?_
    try simp only [Act.put, List.setIfInBounds_toArray, List.set_cons_zero, List.set_cons_succ]
    refine takeD (i := 26) (d := some 4) (v := .bool false) rfl rfl (by kernel_rfl) (by kernel_rfl) (by kernel_rfl) (fun _ _ _ h => h) (Or.inl ⟨by rfl, (by intro W hS; go_simp)⟩) hHeld ?_
    try simp only [Act.put, List.setIfInBounds_toArray, List.set_cons_zero, List.set_cons_succ]
    refine wpAnyH_done (by kernel_rfl) ?_ _
    go_wp2
    go_ret
    exact ⟨by rw [HT.out]; rfl, below_next B4.out hbk⟩
  | true =>
    obtain ⟨P2, h2⟩ : ∃ p, p = (a.name.toList == b.name.toList) := ⟨_, rfl⟩
    rw [← h2] at hq
    have h2' := h2.symm
    clear h2
    refine takeD (i := 6) (d := some 11) (v := .pointer (some ⟨ga, 11, none⟩)) rfl rfl (by kernel_rfl) (by kernel_rfl) (by kernel_rfl) (fun _ _ _ h => h) (Or.inl ⟨by rfl, (by intro W hS; go_simp)⟩) hHeld ?_
    try simp only [Act.put, List.setIfInBounds_toArray, List.set_cons_zero, List.set_cons_succ]
    refine takeD (i := 7) (d := some 12) (v := .string a.name) rfl rfl (by kernel_rfl) (by kernel_rfl) (by kernel_rfl) (fun _ _ _ h => h) (Or.inl ⟨by rfl, (by intro W hS; go_simp)⟩) hHeld ?_
    try simp only [Act.put, List.setIfInBounds_toArray, List.set_cons_zero, List.set_cons_succ]
    refine takeD (i := 8) (d := some 13) (v := .pointer (some ⟨gb, 11, none⟩)) rfl rfl (by kernel_rfl) (by kernel_rfl) (by kernel_rfl) (fun _ _ _ h => h) (Or.inl ⟨by rfl, (by intro W hS; go_simp)⟩) hHeld ?_
    try simp only [Act.put, List.setIfInBounds_toArray, List.set_cons_zero, List.set_cons_succ]
    refine takeD (i := 9) (d := some 14) (v := .string b.name) rfl rfl (by kernel_rfl) (by kernel_rfl) (by kernel_rfl) (fun _ _ _ h => h) (Or.inl ⟨by rfl, (by intro W hS; go_simp)⟩) hHeld ?_
    try simp only [Act.put, List.setIfInBounds_toArray, List.set_cons_zero, List.set_cons_succ]
    refine takeD (i := 10) (d := some 15) (v := .bool P2) rfl rfl (by kernel_rfl) (by kernel_rfl) (by kernel_rfl) (fun _ _ _ h => h) (Or.inl ⟨by rfl, (by intro W hS; go_simp)⟩) hHeld ?_
    try simp only [Act.put, List.setIfInBounds_toArray, List.set_cons_zero, List.set_cons_succ]
    refine takeD (i := 11) (d := some 16) (v := .bool P2) rfl rfl (by kernel_rfl) (by kernel_rfl) (by kernel_rfl) (fun _ _ _ h => h) (Or.inl ⟨by rfl, (by intro W hS; go_simp)⟩) hHeld ?_
    try simp only [Act.put, List.setIfInBounds_toArray, List.set_cons_zero, List.set_cons_succ]
    refine takeD (i := 12) (d := some 17) (v := .bool P2) rfl rfl (by kernel_rfl) (by kernel_rfl) (by kernel_rfl) (fun _ _ _ h => h) (Or.inl ⟨by rfl, (by intro W hS; go_simp)⟩) hHeld ?_
    try simp only [Act.put, List.setIfInBounds_toArray, List.set_cons_zero, List.set_cons_succ]
    cases P2 with
    | false =>
      have HT : Hid (R = false) := by show R = _; rw [hq]; simp
      clear hq
      refine takeD (i := 13) (d := some 18) (v := undef) rfl rfl (by kernel_rfl) (by kernel_rfl) (by kernel_rfl) (fun _ _ _ h => h) (Or.inr ⟨by rfl, rfl⟩) hHeld ?_
      try simp only [Act.put, List.setIfInBounds_toArray, List.set_cons_zero, List.set_cons_succ]
      refine takeD (i := 14) (d := some 19) (v := undef) rfl rfl (by kernel_rfl) (by kernel_rfl) (by kernel_rfl) (fun _ _ _ h => h) (Or.inr ⟨by rfl, rfl⟩) hHeld ?_
      try simp only [Act.put, List.setIfInBounds_toArray, List.set_cons_zero, List.set_cons_succ]
      refine takeD (i := 15) (d := some 20) (v := undef) rfl rfl (by kernel_rfl) (by kernel_rfl) (by kernel_rfl) (fun _ _ _ h => h) (Or.inr ⟨by rfl, rfl⟩) hHeld ?_
      try simp only [Act.put, List.setIfInBounds_toArray, List.set_cons_zero, List.set_cons_succ]
      refine takeD (i := 16) (d := some 21) (v := undef) rfl rfl (by kernel_rfl) (by kernel_rfl) (by kernel_rfl) (fun _ _ _ h => h) (Or.inr ⟨by rfl, rfl⟩) hHeld ?_
      try simp only [Act.put, List.setIfInBounds_toArray, List.set_cons_zero, List.set_cons_succ]
      refine takeD (i := 17) (d := some 22) (v := undef) rfl rfl (by kernel_rfl) (by kernel_rfl) (by kernel_rfl) (fun _ _ _ h => h) (Or.inr ⟨by rfl, rfl⟩) hHeld ?_
      try simp only [Act.put, List.setIfInBounds_toArray, List.set_cons_zero, List.set_cons_succ]
      refine takeD (i := 18) (d := some 23) (v := .bool false) rfl rfl (by kernel_rfl) (by kernel_rfl) (by kernel_rfl) (fun _ _ _ h => h) (Or.inl ⟨by rfl, (by intro W hS; go_simp)⟩) hHeld ?_
      try simp only [Act.put, List.setIfInBounds_toArray, List.set_cons_zero, List.set_cons_succ]
      refine takeD (i := 19) (d := some 24) (v := .bool false) rfl rfl (by kernel_rfl) (by kernel_rfl) (by kernel_rfl) (fun _ _ _ h => h) (Or.inl ⟨by rfl, (by intro W hS; go_simp)⟩) hHeld ?_
      try simp only [Act.put, List.setIfInBounds_toArray, List.set_cons_zero, List.set_cons_succ]
      refine takeD (i := 20) (d := some 25) (v := undef) rfl rfl (by kernel_rfl) (by kernel_rfl) (by kernel_rfl) (fun _ _ _ h => h) (Or.inr ⟨by rfl, rfl⟩) hHeld ?_
      try simp only [Act.put, List.setIfInBounds_toArray, List.set_cons_zero, List.set_cons_succ]
      refine takeD (i := 21) (d := some 26) (v := undef) rfl rfl (by kernel_rfl) (by kernel_rfl) (by kernel_rfl) (fun _ _ _ h => h) (Or.inr ⟨by rfl, rfl⟩) hHeld ?_
      try simp only [Act.put, List.setIfInBounds_toArray, List.set_cons_zero, List.set_cons_succ]
      refine takeD (i := 22) (d := some 27) (v := undef) rfl rfl (by kernel_rfl) (by kernel_rfl) (by kernel_rfl) (fun _ _ _ h => h) (Or.inr ⟨by rfl, rfl⟩) hHeld ?_
      try simp only [Act.put, List.setIfInBounds_toArray, List.set_cons_zero, List.set_cons_succ]
      refine takeD (i := 23) (d := some 28) (v := undef) rfl rfl (by kernel_rfl) (by kernel_rfl) (by kernel_rfl) (fun _ _ _ h => h) (Or.inr ⟨by rfl, rfl⟩) hHeld ?_
      try simp only [Act.put, List.setIfInBounds_toArray, List.set_cons_zero, List.set_cons_succ]
      refine takeD (i := 24) (d := some 29) (v := undef) rfl rfl (by kernel_rfl) (by kernel_rfl) (by kernel_rfl) (fun _ _ _ h => h) (Or.inr ⟨by rfl, rfl⟩) hHeld ?_
      try simp only [Act.put, List.setIfInBounds_toArray, List.set_cons_zero, List.set_cons_succ]
      refine takeD (i := 25) (d := some 30) (v := .bool false) rfl rfl (by kernel_rfl) (by kernel_rfl) (by kernel_rfl) (fun _ _ _ h => h) (Or.inl ⟨by rfl, (by intro W hS; go_simp)⟩) hHeld ?_
      try simp only [Act.put, List.setIfInBounds_toArray, List.set_cons_zero, List.set_cons_succ]
      refine takeD (i := 26) (d := some 4) (v := .bool false) rfl rfl (by kernel_rfl) (by kernel_rfl) (by kernel_rfl) (fun _ _ _ h => h) (Or.inl ⟨by rfl, (by intro W hS; go_simp)⟩) hHeld ?_
      try simp only [Act.put, List.setIfInBounds_toArray, List.set_cons_zero, List.set_cons_succ]
      refine wpAnyH_done (by kernel_rfl) ?_ _
      go_wp2
      go_ret
      exact ⟨by rw [HT.out]; rfl, below_next B4.out hbk⟩
    | true =>
      refine takeD (i := 13) (d := some 18) (v := .pointer (some ⟨ga, 12, none⟩)) rfl rfl (by kernel_rfl) (by kernel_rfl) (by kernel_rfl) (fun _ _ _ h => h) (Or.inl ⟨by rfl, (by intro W hS; go_simp)⟩) hHeld ?_
      try simp only [Act.put, List.setIfInBounds_toArray, List.set_cons_zero, List.set_cons_succ]
      refine takeD (i := 14) (d := some 19) (v := .slice A1 a.bytes.length c1) rfl rfl (by kernel_rfl) (by kernel_rfl) (by kernel_rfl) (fun _ _ _ h => h) (Or.inl ⟨by rfl, (by intro W hS; go_simp)⟩) hHeld ?_
      try simp only [Act.put, List.setIfInBounds_toArray, List.set_cons_zero, List.set_cons_succ]
      refine takeD (i := 15) (d := some 20) (v := .pointer (some ⟨gb, 12, none⟩)) rfl rfl (by kernel_rfl) (by kernel_rfl) (by kernel_rfl) (fun _ _ _ h => h) (Or.inl ⟨by rfl, (by intro W hS; go_simp)⟩) hHeld ?_
      try simp only [Act.put, List.setIfInBounds_toArray, List.set_cons_zero, List.set_cons_succ]
      refine takeD (i := 16) (d := some 21) (v := .slice D1 b.bytes.length d1) rfl rfl (by kernel_rfl) (by kernel_rfl) (by kernel_rfl) (fun _ _ _ h => h) (Or.inl ⟨by rfl, (by intro W hS; go_simp)⟩) hHeld ?_
      try simp only [Act.put, List.setIfInBounds_toArray, List.set_cons_zero, List.set_cons_succ]
      refine wpAnyH_ready (rs := [17]) (by kernel_rfl) (by simp) (AllReadyH.cons rfl (fun K hK => ?_) AllReadyH.nil)
      go_simp
      refine (C4.out _ hbk).mono ?_
      rintro e wk4 ⟨rfl, hb⟩
      replace hbk := below_next hbk hb
      clear hb
      refine hK.out _ _ (HF.out _ hbk) (fun hHeld => ?_)
      clear hK K
      try simp only [Act.put, List.setIfInBounds_toArray, List.set_cons_zero, List.set_cons_succ]
      refine takeD (i := 18) (d := some 23) (v := .bool P3) rfl rfl (by kernel_rfl) (by kernel_rfl) (by kernel_rfl) (fun _ _ _ h => h) (Or.inl ⟨by rfl, (by intro W hS; go_simp)⟩) hHeld ?_
      try simp only [Act.put, List.setIfInBounds_toArray, List.set_cons_zero, List.set_cons_succ]
      refine takeD (i := 19) (d := some 24) (v := .bool P3) rfl rfl (by kernel_rfl) (by kernel_rfl) (by kernel_rfl) (fun _ _ _ h => h) (Or.inl ⟨by rfl, (by intro W hS; go_simp)⟩) hHeld ?_
      try simp only [Act.put, List.setIfInBounds_toArray, List.set_cons_zero, List.set_cons_succ]
      cases P3 with
      | false =>
        have HT : Hid (R = false) := by show R = _; rw [hq]; simp
        clear hq
        refine takeD (i := 20) (d := some 25) (v := undef) rfl rfl (by kernel_rfl) (by kernel_rfl) (by kernel_rfl) (fun _ _ _ h => h) (Or.inr ⟨by rfl, rfl⟩) hHeld ?_
        try simp only [Act.put, List.setIfInBounds_toArray, List.set_cons_zero, List.set_cons_succ]
        refine takeD (i := 21) (d := some 26) (v := undef) rfl rfl (by kernel_rfl) (by kernel_rfl) (by kernel_rfl) (fun _ _ _ h => h) (Or.inr ⟨by rfl, rfl⟩) hHeld ?_
        try simp only [Act.put, List.setIfInBounds_toArray, List.set_cons_zero, List.set_cons_succ]
        refine takeD (i := 22) (d := some 27) (v := undef) rfl rfl (by kernel_rfl) (by kernel_rfl) (by kernel_rfl) (fun _ _ _ h => h) (Or.inr ⟨by rfl, rfl⟩) hHeld ?_
        try simp only [Act.put, List.setIfInBounds_toArray, List.set_cons_zero, List.set_cons_succ]
        refine takeD (i := 23) (d := some 28) (v := undef) rfl rfl (by kernel_rfl) (by kernel_rfl) (by kernel_rfl) (fun _ _ _ h => h) (Or.inr ⟨by rfl, rfl⟩) hHeld ?_
        try simp only [Act.put, List.setIfInBounds_toArray, List.set_cons_zero, List.set_cons_succ]
        refine takeD (i := 24) (d := some 29) (v := undef) rfl rfl (by kernel_rfl) (by kernel_rfl) (by kernel_rfl) (fun _ _ _ h => h) (Or.inr ⟨by rfl, rfl⟩) hHeld ?_
        try simp only [Act.put, List.setIfInBounds_toArray, List.set_cons_zero, List.set_cons_succ]
        refine takeD (i := 25) (d := some 30) (v := .bool false) rfl rfl (by kernel_rfl) (by kernel_rfl) (by kernel_rfl) (fun _ _ _ h => h) (Or.inl ⟨by rfl, (by intro W hS; go_simp)⟩) hHeld ?_
        try simp only [Act.put, List.setIfInBounds_toArray, List.set_cons_zero, List.set_cons_succ]
        refine takeD (i := 26) (d := some 4) (v := .bool false) rfl rfl (by kernel_rfl) (by kernel_rfl) (by kernel_rfl) (fun _ _ _ h => h) (Or.inl ⟨by rfl, (by intro W hS; go_simp)⟩) hHeld ?_
        try simp only [Act.put, List.setIfInBounds_toArray, List.set_cons_zero, List.set_cons_succ]
        refine wpAnyH_done (by kernel_rfl) ?_ _
        go_wp2
        go_ret
        exact ⟨by rw [HT.out]; rfl, below_next B4.out hbk⟩
      | true =>
        have HT : Hid (R = P4) := by show R = _; rw [hq]; simp
        clear hq
        refine takeD (i := 20) (d := some 25) (v := .pointer (some ⟨ga, 13, none⟩)) rfl rfl (by kernel_rfl) (by kernel_rfl) (by kernel_rfl) (fun _ _ _ h => h) (Or.inl ⟨by rfl, (by intro W hS; go_simp)⟩) hHeld ?_
        try simp only [Act.put, List.setIfInBounds_toArray, List.set_cons_zero, List.set_cons_succ]
        refine takeD (i := 21) (d := some 26) (v := .slice A2 a.token.length c2) rfl rfl (by kernel_rfl) (by kernel_rfl) (by kernel_rfl) (fun _ _ _ h => h) (Or.inl ⟨by rfl, (by intro W hS; go_simp)⟩) hHeld ?_
        try simp only [Act.put, List.setIfInBounds_toArray, List.set_cons_zero, List.set_cons_succ]
        refine takeD (i := 22) (d := some 27) (v := .pointer (some ⟨gb, 13, none⟩)) rfl rfl (by kernel_rfl) (by kernel_rfl) (by kernel_rfl) (fun _ _ _ h => h) (Or.inl ⟨by rfl, (by intro W hS; go_simp)⟩) hHeld ?_
        try simp only [Act.put, List.setIfInBounds_toArray, List.set_cons_zero, List.set_cons_succ]
        refine takeD (i := 23) (d := some 28) (v := .slice D2 b.token.length d2) rfl rfl (by kernel_rfl) (by kernel_rfl) (by kernel_rfl) (fun _ _ _ h => h) (Or.inl ⟨by rfl, (by intro W hS; go_simp)⟩) hHeld ?_
        try simp only [Act.put, List.setIfInBounds_toArray, List.set_cons_zero, List.set_cons_succ]
        refine wpAnyH_ready (rs := [24]) (by kernel_rfl) (by simp) (AllReadyH.cons rfl (fun K hK => ?_) AllReadyH.nil)
        go_simp
        refine (C5.out _ hbk).mono ?_
        rintro e wk5 ⟨rfl, hb⟩
        replace hbk := below_next hbk hb
        clear hb
        refine hK.out _ _ (HF.out _ hbk) (fun hHeld => ?_)
        clear hK K
        try simp only [Act.put, List.setIfInBounds_toArray, List.set_cons_zero, List.set_cons_succ]
        refine takeD (i := 25) (d := some 30) (v := .bool P4) rfl rfl (by kernel_rfl) (by kernel_rfl) (by kernel_rfl) (fun _ _ _ h => h) (Or.inl ⟨by rfl, (by intro W hS; go_simp)⟩) hHeld ?_
        try simp only [Act.put, List.setIfInBounds_toArray, List.set_cons_zero, List.set_cons_succ]
        refine takeD (i := 26) (d := some 4) (v := .bool P4) rfl rfl (by kernel_rfl) (by kernel_rfl) (by kernel_rfl) (fun _ _ _ h => h) (Or.inl ⟨by rfl, (by intro W hS; go_simp)⟩) hHeld ?_
        try simp only [Act.put, List.setIfInBounds_toArray, List.set_cons_zero, List.set_cons_succ]
        refine wpAnyH_done (by kernel_rfl) ?_ _
        go_wp2
        go_ret
        exact ⟨by rw [HT.out]; rfl, below_next B4.out hbk⟩
end Go.Proofs.YtidpihpddkfhgaaDoor
