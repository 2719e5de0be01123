/- Contracts: a version is set, by the program's own code. -/
import Derived.Test.YtealebeacddbbaaDoorOi
import Derived.Test.YtealebeacddbbaaDoorEi
namespace Go.Proofs.YtealebeacddbbaaDoor
open Go.RowKit Slices

/-- an error that was wrapped once -/
def IsErr (c : Int) (v : Value) (w : World) : Prop := ∃ (q : Nat) (p : Addr), v = .iface 68 (.pointer (some ⟨q, 0, none⟩)) ∧ w.cell? ⟨q, 1, none⟩ = some (.iface 49 (.pointer (some p))) ∧ w.cell? p = some (.int .i64 c)
theorem IsErr.next {c : Int} {v : Value} {w w' : World} (h : IsErr c v w) (hb : Below w.heap.size w w') : IsErr c v w' := by
  obtain ⟨q, p, hv, hq, hc⟩ := h
  exact ⟨q, p, hv, cell_below hq hb, cell_below hc hb⟩
theorem IsErr.num {c : Int} {v : Value} {w : World} (h : IsErr c v w) (h0 : c ≠ 0) : NumIs c v w := fun W hb hg => by
  obtain ⟨q, p, rfl, hq, hc⟩ := h.next hb
  exact num_w q p c W hg hq hc h0
theorem cell_setRow {w : World} {g : Nat} {cs : Array Value} {p : Addr} {v : Value} (h : w.cell? p = some v) (hg : p.block ≠ g) : (w.setRow g cs).cell? p = some v := by
  have e : (w.setRow g cs).heap[p.block]? = w.heap[p.block]? := setRow_other _ _ _ _ hg
  unfold World.cell? at h ⊢
  rw [e]
  exact h
theorem wrap_one (x : ByteArray) (p : Addr) (w : World) :
    Calls Tryd.prog 20 #[.string x, .iface 49 (.pointer (some p))] w fun e w' => e = .returned (.iface 68 (.pointer (some ⟨w.heap.size, 0, none⟩))) ∧ w' = w.alloc (.cells #[.string x, .iface 49 (.pointer (some p))] 70) := by
  go_enter Tryd.func20, Tryd.ntmps20
  go_wp2
  go_ret
  exact ⟨rfl, rfl⟩
set_option maxRecDepth 100000 in
set_option maxHeartbeats 4000000 in
theorem pSet_yes (K : KeyV) (op n till clock : Int) (A : Option Addr) (c : Nat) (w : World) (h : RdK w A c K) (hq : Asked K op n) (hf : From op (vg K.vs (n - 1).toNat).st) (ht : op = 7 → clock < till ∧ 1 ≤ till ∧ till ≤ 1099511627776) :
    Calls Tryd.prog 9 #[keyVal K A c, .int .i64 op, .int .i64 n, .int .i64 till, .int .i64 clock] w (KeyOwn (putK K (n - 1).toNat (toS op) (dueS op till)) w) := by
  have HI : Hid ((Tryd.prog.info? 24).map (·.size) = some 4) := by show _ = _; kernel_rfl
  obtain ⟨W, hW⟩ : ∃ W, W = (w.alloc (.cells #[.int .i64 K.id, .int .i64 K.ten, .int .i64 K.set, .slice A K.vs.length c] 24)).alloc (.cells #[.int .i64 0, .int .i64 0, .int .i64 0, .slice none 0 0] 24) := ⟨_, rfl⟩
  have hb0 : Below w.heap.size w W := by rw [hW]; exact ((Below.refl _ _).alloc (Nat.le_refl _) _).alloc (by simp) _
  have r1 : W.heap[w.heap.size + 1]? = some (.cells #[.int .i64 0, .int .i64 0, .int .i64 0, .slice none 0 0] 24 (0, 0)) := by rw [hW]; exact heap_alloc2_new w _ _
  have R0 := Lib.hid r1
  have B0 := Lib.hid hb0
  have HC := Lib.hid (set_yes K op n till clock A c W (h.next hb0) hq hf ht)
  obtain ⟨X, hX⟩ : ∃ X : KeyV, X = putK K (n - 1).toNat (toS op) (dueS op till) := ⟨_, rfl⟩
  rw [← hX] at HC ⊢
  clear hb0 r1 h hq hf ht hX
  unfold keyVal at HC ⊢
  go_enter Tryd.func9, Tryd.ntmps9
  go_wp2_with fail
  rw [← hW]
  clear hW
  refine HC.out.mono ?_
  rintro e w1 ⟨⟨A1, c1⟩, rfl, hr, hb⟩
  have R1 : Hid (w1.heap[w.heap.size + 1]? = _) := (hb.block _ (Array.getElem?_eq_some_iff.1 R0.out).1).trans R0.out
  have B1 := Lib.hid (below_next B0.out hb)
  have RD := Lib.hid (OwnK.down hr B0.out.size)
  clear hb hr R0 HC
  unfold keyVal
  simp only at RD ⊢
  go_wp2_with fail
  obtain ⟨W2, hW2⟩ : ∃ W2, W2 = w1.alloc (.cells #[.int .i64 X.id, .int .i64 X.ten, .int .i64 X.set, .slice A1 X.vs.length c1] 24) := ⟨_, rfl⟩
  obtain ⟨g, hg⟩ : ∃ g, g = w1.heap.size := ⟨_, rfl⟩
  have R2 : Hid (W2.heap[w.heap.size + 1]? = some (.cells #[.int .i64 0, .int .i64 0, .int .i64 0, .slice none 0 0] 24 (0, 0))) := by rw [hW2]; exact Lib.hid ((heap_alloc_old _ _ (Array.getElem?_eq_some_iff.1 R1.out).1).trans R1.out)
  have K2 : Hid (W2.heap[g]? = some (.cells #[.int .i64 X.id, .int .i64 X.ten, .int .i64 X.set, .slice A1 X.vs.length c1] 24 (0, 0))) := by rw [hW2, hg]; exact Lib.hid (heap_alloc_new w1 _)
  have L2 : Hid (Below w1.heap.size w1 W2) := by rw [hW2]; exact Lib.hid ((Below.refl _ _).alloc (Nat.le_refl _) _)
  have B2 := Lib.hid (below_next B1.out L2.out)
  have RD2 := Lib.hid (RD.out.next L2.out)
  have no : w.heap.size + 1 ≠ g := by have := (Array.getElem?_eq_some_iff.1 R1.out).1; omega
  rw [← hW2, ← hg]
  clear hW2 hg R1 B1 L2 RD
  refine wp_region_held_drew (S := fun W => W.cell? ⟨g, 0, none⟩ = some (.int .i64 X.id) ∧ W.cell? ⟨g, 1, none⟩ = some (.int .i64 X.ten) ∧ W.cell? ⟨g, 2, none⟩ = some (.int .i64 X.set) ∧ W.cell? ⟨g, 3, none⟩ = some (.slice A1 X.vs.length c1)) (by kernel_rfl) ⟨cell_of_row _ _ 0 _ _ _ K2.out, cell_of_row _ _ 1 _ _ _ K2.out, cell_of_row _ _ 2 _ _ _ K2.out, cell_of_row _ _ 3 _ _ _ K2.out⟩ (fun hHeld => ?_)
  refine takeD (i := 0) (d := some 23) (v := .agg #[.int .i64 X.id, .int .i64 X.ten, .int .i64 X.set, .slice A1 X.vs.length c1]) rfl rfl (by kernel_rfl) (by kernel_rfl) (by kernel_rfl) (fun _ _ _ h => h) (Or.inl ⟨by rfl, (by rintro W ⟨z0, z1, z2, z3⟩; go_simp)⟩) hHeld ?_
  try simp only [Act.put, List.setIfInBounds_toArray, List.set_cons_zero, List.set_cons_succ]
  refine takeD (i := 1) (d := some 24) (v := .nilIface) rfl rfl (by kernel_rfl) (by kernel_rfl) (by kernel_rfl) (fun _ _ _ h => h) (Or.inl ⟨by rfl, (by rintro W ⟨z0, z1, z2, z3⟩; go_simp)⟩) hHeld ?_
  try simp only [Act.put, List.setIfInBounds_toArray, List.set_cons_zero, List.set_cons_succ]
  refine wpAnyH_ready (rs := [2]) (by kernel_rfl) (by simp) (AllReadyH.cons rfl (fun KK hK => ?_) AllReadyH.nil)
  go_simp
  refine (wrap_nil _ _).mono ?_
  rintro e w' ⟨rfl, rfl⟩
  refine hK.out _ _ hHeld (fun hHeld => ?_)
  clear hK KK
  try simp only [Act.put, List.setIfInBounds_toArray, List.set_cons_zero, List.set_cons_succ]
  refine wpAnyH_ready (rs := [3]) (by kernel_rfl) (by simp) (AllReadyH.cons rfl (fun KK hK => ?_) AllReadyH.nil)
  refine step_store_row rfl 24 _ _ rfl (w.heap.size + 1) #[.int .i64 X.id, .int .i64 X.ten, .int .i64 X.set, .slice A1 X.vs.length c1] rfl rfl 24 _ R2.out HI.out rfl (by simp [Value.oneCell']) ?_
  have hK3 : (W2.drew.setRow (w.heap.size + 1) #[.int .i64 X.id, .int .i64 X.ten, .int .i64 X.set, .slice A1 X.vs.length c1]).heap[g]? = _ := (setRow_other _ _ _ _ (fun e => no e.symm)).trans K2.out
  refine hK.out _ _ ⟨cell_of_row _ _ 0 _ _ _ hK3, cell_of_row _ _ 1 _ _ _ hK3, cell_of_row _ _ 2 _ _ _ hK3, cell_of_row _ _ 3 _ _ _ hK3⟩ (fun hHeld => ?_)
  clear hK KK hK3
  try simp only [Act.put, List.setIfInBounds_toArray]
  refine takeD (i := 4) (d := some 11) (v := .nilIface) rfl rfl (by kernel_rfl) (by kernel_rfl) (by kernel_rfl) (fun _ _ _ h => h) (Or.inl ⟨by rfl, (by rintro W ⟨z0, z1, z2, z3⟩; go_simp)⟩) hHeld ?_
  try simp only [Act.put]
  refine wpAnyH_done (by kernel_rfl) ?_ _
  go_wp2
  refine bodyPost_ret (v := .tuple #[.agg #[.int .i64 X.id, .int .i64 X.ten, .int .i64 X.set, .slice A1 X.vs.length c1], .nilIface]) ?_ rfl ?_
  · refine Eq.trans (results_cell2 (p := 10) (a := 11) (ty := 24) ?h _ _ (w.heap.size + 1) 24 #[.int .i64 X.id, .int .i64 X.ten, .int .i64 X.set, .slice A1 X.vs.length c1] (0, 0) _ ?hp (setRow_heap _ _ _ _ 24 (0, 0) R2.out) Tryd.underlying24 rfl HI.out) rfl
    case h => rfl
    case hp => rfl
  exact ⟨(A1, c1), rfl, OwnK.set (w := W2.drew) RD2.out R2.out (by decide) (by decide), below_setRow B2.out.drew (by omega) _⟩
set_option maxRecDepth 100000 in
set_option maxHeartbeats 4000000 in
theorem set_no (K : KeyV) (op n till clock : Int) (A : Option Addr) (c : Nat) (w : World) (h : RdK w A c K) (hq : Asked K op n) (hf : ¬ From op (vg K.vs (n - 1).toNat).st) :
    Calls Tryd.prog 19 #[keyVal K A c, .int .i64 op, .int .i64 n, .int .i64 till, .int .i64 clock] w fun e w' => ∃ p : Addr, e = .returned (.tuple #[.agg #[.int .i64 0, .int .i64 0, .int .i64 0, .slice none 0 0], .iface 49 (.pointer (some p))]) ∧ w'.cell? p = some (.int .i64 11) ∧ w.heap.size + 2 ≤ p.block ∧ Below w.heap.size w w' := by
  have HI : Hid ((Tryd.prog.info? 24).map (·.size) = some 4) := by show _ = _; kernel_rfl
  obtain ⟨W, hW⟩ : ∃ W, W = (w.alloc (.cells #[.int .i64 K.id, .int .i64 K.ten, .int .i64 K.set, .slice A K.vs.length c] 24)).alloc (.cells #[.int .i64 0, .int .i64 0, .int .i64 0, .slice none 0 0] 24) := ⟨_, rfl⟩
  have hb0 : Below w.heap.size w W := by rw [hW]; exact ((Below.refl _ _).alloc (Nat.le_refl _) _).alloc (by simp) _
  have r1 : W.heap[w.heap.size + 1]? = some (.cells #[.int .i64 0, .int .i64 0, .int .i64 0, .slice none 0 0] 24 (0, 0)) := by rw [hW]; exact heap_alloc2_new w _ _
  have R0 := Lib.hid r1
  have B0 := Lib.hid hb0
  have HSZ : Hid (W.heap.size = w.heap.size + 2) := by show _ = _; rw [hW]; simp
  have HC := Lib.hid (refusal_state K op n till clock A c W (h.next hb0) hq hf)
  clear hb0 r1 h hq hf
  unfold keyVal at HC ⊢
  go_enter Tryd.func19, Tryd.ntmps19
  go_wp2_with fail
  rw [← hW]
  clear hW
  refine HC.out.mono ?_
  rintro e w1 ⟨p, rfl, hp, hpb, hb⟩
  have R1 : Hid (w1.heap[w.heap.size + 1]? = _) := (hb.block _ (Array.getElem?_eq_some_iff.1 R0.out).1).trans R0.out
  have B1 := Lib.hid (below_next B0.out hb)
  have HP := Lib.hid hp
  have HPB : Hid (w.heap.size + 2 ≤ p.block) := by rw [← HSZ.out]; exact hpb
  clear hb hp hpb R0 HC
  go_wp2_with (refine wpList_store_row rfl 24 _ _ rfl (w.heap.size + 1) #[.int .i64 0, .int .i64 0, .int .i64 0, .slice none 0 0] rfl rfl 24 _ R1.out HI.out rfl (by simp [Value.oneCell']) ?_)
  refine bodyPost_ret (v := .tuple #[.agg #[.int .i64 0, .int .i64 0, .int .i64 0, .slice none 0 0], .iface 49 (.pointer (some p))]) ?_ rfl ?_
  · refine Eq.trans (results_cell2 (p := 10) (a := 11) (ty := 24) ?h _ _ (w.heap.size + 1) 24 #[.int .i64 0, .int .i64 0, .int .i64 0, .slice none 0 0] (0, 0) _ ?hp (setRow_heap _ _ _ _ 24 (0, 0) R1.out) Tryd.underlying24 rfl HI.out) rfl
    case h => rfl
    case hp => rfl
  exact ⟨p, rfl, cell_setRow HP.out (by have := HPB.out; omega), HPB.out, below_setRow B1.out (by omega) _⟩
set_option maxRecDepth 100000 in
set_option maxHeartbeats 4000000 in
theorem pSet_state (K : KeyV) (op n till clock : Int) (A : Option Addr) (c : Nat) (w : World) (h : RdK w A c K) (hq : Asked K op n) (hf : ¬ From op (vg K.vs (n - 1).toNat).st) :
    Calls Tryd.prog 9 #[keyVal K A c, .int .i64 op, .int .i64 n, .int .i64 till, .int .i64 clock] w fun e w' => ∃ A' c' v, e = .returned (.tuple #[keyVal key0 A' c', v]) ∧ RdK w' A' c' key0 ∧ NumIs 11 v w' ∧ Below w.heap.size w w' := by
  have HI : Hid ((Tryd.prog.info? 24).map (·.size) = some 4) := by show _ = _; kernel_rfl
  obtain ⟨W, hW⟩ : ∃ W, W = (w.alloc (.cells #[.int .i64 K.id, .int .i64 K.ten, .int .i64 K.set, .slice A K.vs.length c] 24)).alloc (.cells #[.int .i64 0, .int .i64 0, .int .i64 0, .slice none 0 0] 24) := ⟨_, rfl⟩
  have hb0 : Below w.heap.size w W := by rw [hW]; exact ((Below.refl _ _).alloc (Nat.le_refl _) _).alloc (by simp) _
  have r1 : W.heap[w.heap.size + 1]? = some (.cells #[.int .i64 0, .int .i64 0, .int .i64 0, .slice none 0 0] 24 (0, 0)) := by rw [hW]; exact heap_alloc2_new w _ _
  have HSZ : Hid (W.heap.size = w.heap.size + 2) := by show _ = _; rw [hW]; simp
  have R0 := Lib.hid r1
  have B0 := Lib.hid hb0
  have HC := Lib.hid (set_no K op n till clock A c W (h.next hb0) hq hf)
  clear hb0 r1 h hq hf
  unfold keyVal at HC ⊢
  go_enter Tryd.func9, Tryd.ntmps9
  go_wp2_with fail
  rw [← hW]
  clear hW
  refine HC.out.mono ?_
  rintro e w1 ⟨p, rfl, hp, hpb, hb⟩
  have R1 : Hid (w1.heap[w.heap.size + 1]? = _) := (hb.block _ (Array.getElem?_eq_some_iff.1 R0.out).1).trans R0.out
  have B1 := Lib.hid (below_next B0.out hb)
  have HP := Lib.hid hp
  have HPB : Hid (w.heap.size + 2 ≤ p.block) := by have := HSZ.out; exact Lib.hid (by omega)
  clear hb hp hpb R0 HC HSZ
  go_wp2_with fail
  obtain ⟨W2, hW2⟩ : ∃ W2, W2 = w1.alloc (.cells #[.int .i64 0, .int .i64 0, .int .i64 0, .slice none 0 0] 24) := ⟨_, rfl⟩
  obtain ⟨g, hg⟩ : ∃ g, g = w1.heap.size := ⟨_, rfl⟩
  have R2 : Hid (W2.heap[w.heap.size + 1]? = some (.cells #[.int .i64 0, .int .i64 0, .int .i64 0, .slice none 0 0] 24 (0, 0))) := by rw [hW2]; exact Lib.hid ((heap_alloc_old _ _ (Array.getElem?_eq_some_iff.1 R1.out).1).trans R1.out)
  have K2 : Hid (W2.heap[g]? = some (.cells #[.int .i64 0, .int .i64 0, .int .i64 0, .slice none 0 0] 24 (0, 0))) := by rw [hW2, hg]; exact Lib.hid (heap_alloc_new w1 _)
  have L2 : Hid (Below w1.heap.size w1 W2) := by rw [hW2]; exact Lib.hid ((Below.refl _ _).alloc (Nat.le_refl _) _)
  have B2 := Lib.hid (below_next B1.out L2.out)
  have P2 := Lib.hid (cell_below HP.out L2.out)
  have no : w.heap.size + 1 ≠ g := by have := (Array.getElem?_eq_some_iff.1 R1.out).1; omega
  rw [← hW2, ← hg]
  clear hW2 hg R1 B1 L2 HP
  refine wp_region_held_drew (S := fun W => W.cell? ⟨g, 0, none⟩ = some (.int .i64 0) ∧ W.cell? ⟨g, 1, none⟩ = some (.int .i64 0) ∧ W.cell? ⟨g, 2, none⟩ = some (.int .i64 0) ∧ W.cell? ⟨g, 3, none⟩ = some (.slice none 0 0)) (by kernel_rfl) ⟨cell_of_row _ _ 0 _ _ _ K2.out, cell_of_row _ _ 1 _ _ _ K2.out, cell_of_row _ _ 2 _ _ _ K2.out, cell_of_row _ _ 3 _ _ _ K2.out⟩ (fun hHeld => ?_)
  refine takeD (i := 0) (d := some 23) (v := .agg #[.int .i64 0, .int .i64 0, .int .i64 0, .slice none 0 0]) rfl rfl (by kernel_rfl) (by kernel_rfl) (by kernel_rfl) (fun _ _ _ h => h) (Or.inl ⟨by rfl, (by rintro W ⟨z0, z1, z2, z3⟩; go_simp)⟩) hHeld ?_
  try simp only [Act.put, List.setIfInBounds_toArray, List.set_cons_zero, List.set_cons_succ]
  refine takeD (i := 1) (d := some 24) (v := .iface 49 (.pointer (some p))) rfl rfl (by kernel_rfl) (by kernel_rfl) (by kernel_rfl) (fun _ _ _ h => h) (Or.inl ⟨by rfl, (by rintro W ⟨z0, z1, z2, z3⟩; go_simp)⟩) hHeld ?_
  try simp only [Act.put, List.setIfInBounds_toArray, List.set_cons_zero, List.set_cons_succ]
  refine wpAnyH_ready (rs := [2]) (by kernel_rfl) (by simp) (AllReadyH.cons rfl (fun KK hK => ?_) AllReadyH.nil)
  go_simp
  refine (wrap_one _ p W2.drew).mono ?_
  rintro e w3 ⟨rfl, rfl⟩
  obtain ⟨W3, hW3⟩ : ∃ W3, W3 = W2.drew.alloc (.cells #[.string { data := #[107, 101, 121, 115, 46, 83, 101, 116] }, .iface 49 (.pointer (some p))] 70) := ⟨_, rfl⟩
  have L3 : Hid (Below W2.heap.size W2 W3) := by rw [hW3]; exact Lib.hid ((Below.refl _ _).drew.alloc (Nat.le_refl _) _)
  have E3 : Hid (W3.heap[W2.heap.size]? = some (.cells #[.string { data := #[107, 101, 121, 115, 46, 83, 101, 116] }, .iface 49 (.pointer (some p))] 70 (0, 0))) := by rw [hW3]; exact Lib.hid (heap_alloc_new W2.drew _)
  rw [← hW3]
  clear hW3
  have hz : W2.drew.heap.size = W2.heap.size := rfl
  rw [hz]
  clear hz
  have R3 : Hid (W3.heap[w.heap.size + 1]? = _) := (L3.out.block _ (Array.getElem?_eq_some_iff.1 R2.out).1).trans R2.out
  have K3 : Hid (W3.heap[g]? = _) := (L3.out.block _ (Array.getElem?_eq_some_iff.1 K2.out).1).trans K2.out
  have B3 := Lib.hid (below_next B2.out L3.out)
  have P3 := Lib.hid (cell_below P2.out L3.out)
  have no3 : w.heap.size + 1 ≠ W2.heap.size := by have := (Array.getElem?_eq_some_iff.1 R2.out).1; omega
  refine hK.out _ _ ⟨cell_of_row _ _ 0 _ _ _ K3.out, cell_of_row _ _ 1 _ _ _ K3.out, cell_of_row _ _ 2 _ _ _ K3.out, cell_of_row _ _ 3 _ _ _ K3.out⟩ (fun hHeld => ?_)
  clear hK KK R2 K2 B2 P2 L3
  try simp only [Act.put, List.setIfInBounds_toArray, List.set_cons_zero, List.set_cons_succ]
  refine wpAnyH_ready (rs := [3]) (by kernel_rfl) (by simp) (AllReadyH.cons rfl (fun KK hK => ?_) AllReadyH.nil)
  refine step_store_row rfl 24 _ _ rfl (w.heap.size + 1) #[.int .i64 0, .int .i64 0, .int .i64 0, .slice none 0 0] rfl rfl 24 _ R3.out HI.out rfl (by simp [Value.oneCell']) ?_
  have hK3 : (W3.setRow (w.heap.size + 1) #[.int .i64 0, .int .i64 0, .int .i64 0, .slice none 0 0]).heap[g]? = _ := (setRow_other _ _ _ _ (fun e => no e.symm)).trans K3.out
  refine hK.out _ _ ⟨cell_of_row _ _ 0 _ _ _ hK3, cell_of_row _ _ 1 _ _ _ hK3, cell_of_row _ _ 2 _ _ _ hK3, cell_of_row _ _ 3 _ _ _ hK3⟩ (fun hHeld => ?_)
  clear hK KK hK3
  try simp only [Act.put, List.setIfInBounds_toArray]
  refine takeD (i := 4) (d := some 11) (v := .iface 68 (.pointer (some ⟨W2.heap.size, 0, none⟩))) rfl rfl (by kernel_rfl) (by kernel_rfl) (by kernel_rfl) (fun _ _ _ h => h) (Or.inl ⟨by rfl, (by rintro W ⟨z0, z1, z2, z3⟩; go_simp)⟩) hHeld ?_
  try simp only [Act.put]
  refine wpAnyH_done (by kernel_rfl) ?_ _
  go_wp2
  refine bodyPost_ret (v := .tuple #[.agg #[.int .i64 0, .int .i64 0, .int .i64 0, .slice none 0 0], .iface 68 (.pointer (some ⟨W2.heap.size, 0, none⟩))]) ?_ rfl ?_
  · refine Eq.trans (results_cell2 (p := 10) (a := 11) (ty := 24) ?h _ _ (w.heap.size + 1) 24 #[.int .i64 0, .int .i64 0, .int .i64 0, .slice none 0 0] (0, 0) _ ?hp (setRow_heap _ _ _ _ 24 (0, 0) R3.out) Tryd.underlying24 rfl HI.out) rfl
    case h => rfl
    case hp => rfl
  have hE : IsErr 11 (.iface 68 (.pointer (some ⟨W2.heap.size, 0, none⟩))) (W3.setRow (w.heap.size + 1) #[.int .i64 0, .int .i64 0, .int .i64 0, .slice none 0 0]) := by
    refine ⟨W2.heap.size, p, rfl, ?_, cell_setRow P3.out (by have := HPB.out; omega)⟩
    exact cell_setRow (cell_of_row _ _ 1 _ _ _ E3.out) (fun e => no3 e.symm)
  exact ⟨none, 0, _, rfl, rdK_zero _, hE.num (by decide), below_setRow B3.out (by omega) _⟩
end Go.Proofs.YtealebeacddbbaaDoor
