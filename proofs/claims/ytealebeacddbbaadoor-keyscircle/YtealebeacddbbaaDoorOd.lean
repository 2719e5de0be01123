/- Contracts: a new key, by the program's own code. -/
import Derived.Test.YtealebeacddbbaaDoorOb
import Derived.Test.YtealebeacddbbaaDoorOc
namespace Go.Proofs.YtealebeacddbbaaDoor
open Go.RowKit Slices

set_option maxRecDepth 100000 in
set_option maxHeartbeats 2000000 in
theorem fresh_any (n : Int) (A : Option Addr) (m c : Nat) (w : World) :
    Calls Tryd.prog 38 #[.int .i64 n, .slice A m c] w fun e w' => e = .returned (.agg #[.int .i64 n, .int .i64 1, .int .i64 0, .slice A m c]) ∧ Below w.heap.size w w' := by
  have HI : Hid ((Tryd.prog.info? 30).map (·.size) = some 4) := by show _ = _; kernel_rfl
  go_enter Tryd.func38, Tryd.ntmps38
  go_wp2
  refine bodyPost_ret (v := .agg #[.int .i64 n, .int .i64 1, .int .i64 0, .slice A m c]) ?_ rfl ?_
  · exact results_cell_row rfl _ _ w.heap.size 30 _ (0, 0) _ rfl (heap_alloc_new w _) Tryd.underlying30 rfl HI.out
  exact ⟨rfl, (Below.refl _ _).alloc (Nat.le_refl _) _⟩
theorem results_cell2 {P : Program} {fn : Func} {p a : Tmp} {ty : TypeId} (h : fn.results = #[.cell p ty, .tmp a]) (tmps : Array Value) (w : World) (g : Nat) (t : TypeId) (cs : Array Value) (fr : Nat × Nat) (d : TypeDesc)
    (hp : tmps.getD p undef = .pointer (some ⟨g, 0, none⟩)) (hg : w.heap[g]? = some (.cells cs t fr))
    (hu : P.underlying ty = some d) (hd : (match d with | .struct _ | .array _ _ => true | _ => false) = true) (hi : (P.info? ty).map (·.size) = some cs.size) :
    (results fn tmps).run P w = .ok (.tuple #[.agg cs, tmps.getD a undef]) w := by
  have hp' : tmps[p]?.getD undef = .pointer (some ⟨g, 0, none⟩) := by simpa using hp
  simp only [results, h]
  simp [Result.andThen, hp', asAddr, run_loadVar_row w g t ty cs fr d hg hu hd hi]
/-- a key is told that the call made itself, with no error -/
def KeyOwn (K : KeyV) (w : World) (e : Ending) (w' : World) : Prop := ∃ S : Option Addr × Nat, e = .returned (.tuple #[keyVal K S.1 S.2, .nilIface]) ∧ OwnK w' w.heap.size S K ∧ Below w.heap.size w w'
theorem KeyOwn.told {K : KeyV} {w w' : World} {e : Ending} (h : KeyOwn K w e w') : KeyTold K w e w' := by
  obtain ⟨S, h1, h2, h3⟩ := h
  exact ⟨S.1, S.2, h1, h2.rd, h3⟩
theorem hasV_one {w : World} {g : Nat} {v : Ver} {A : Option Addr} {c : Nat} (h : w.heap[g]? = some (.cells #[.int .i64 v.n, .int .i64 v.st, .int .i64 v.due, .slice A v.seed.length c] 30 (0, 0))) (hs : SeedIn w w.heap.size (A, c) v.seed) : HasV w w.heap.size (some ⟨g, 0, none⟩) [v] := fun k hk => by
  obtain rfl : k = 0 := by simp at hk; omega
  refine ⟨⟨g, 0, none⟩, A, c, rfl, (Array.getElem?_eq_some_iff.1 h).1, ?_, ?_, ?_, ?_, hs.1, hs.2.1, hs.2.2⟩
  · exact cell_of_row _ _ 0 _ _ _ h
  · exact cell_of_row _ _ 1 _ _ _ h
  · exact cell_of_row _ _ 2 _ _ _ h
  · exact cell_of_row _ _ 3 _ _ _ h
set_option maxRecDepth 100000 in
set_option maxHeartbeats 4000000 in
theorem created_yes (id ten set : Int) (S : Option Addr) (c : Nat) (l : List Int) (w : World) (m : MayK ⟨id, ten, set, [⟨1, 1, 0, l⟩]⟩) (h : Has .u8 w w.heap.size S l) (hS : S = none → l.length = 0 ∧ c = 0) (hc : l.length ≤ c) :
    Calls Tryd.prog 25 #[.int .i64 id, .int .i64 ten, .int .i64 set, .slice S l.length c] w (KeyOwn ⟨id, ten, set, [⟨1, 1, 0, l⟩]⟩ w) := by
  have HI : Hid ((Tryd.prog.info? 24).map (·.size) = some 4) := by show _ = _; kernel_rfl
  have HM := Lib.hid m
  have HS : Hid (SeedIn w w.heap.size (S, c) l) := ⟨h, hS, hc⟩
  have r0 : (w.alloc (.cells #[.int .i64 0, .int .i64 0, .int .i64 0, .slice none 0 0] 24)).heap[w.heap.size]? = _ := heap_alloc_new w _
  have hb0 : Below w.heap.size w (w.alloc (.cells #[.int .i64 0, .int .i64 0, .int .i64 0, .slice none 0 0] 24)) := (Below.refl _ _).alloc (Nat.le_refl _) _
  have R0 := Lib.hid r0
  have B0 := Lib.hid hb0
  clear r0 hb0 m h hS hc
  go_enter Tryd.func25, Tryd.ntmps25
  go_wp2_with fail
  generalize World.alloc _ _ = W at R0 B0 ⊢
  refine (fresh_any 1 S l.length c W).mono ?_
  rintro e w1 ⟨rfl, hb⟩
  have R1 : Hid (w1.heap[w.heap.size]? = _) := (hb.block _ (Array.getElem?_eq_some_iff.1 R0.out).1).trans R0.out
  have B1 := Lib.hid (below_next B0.out hb)
  clear hb R0 B0
  go_wp2_with fail
  obtain ⟨K, hK⟩ : ∃ K : KeyV, K = ⟨id, ten, set, [⟨1, 1, 0, l⟩]⟩ := ⟨_, rfl⟩
  obtain ⟨W3, hW3⟩ : ∃ W3, W3 = (w1.alloc (.cells #[.int .i64 1, .int .i64 1, .int .i64 0, .slice S l.length c] 30)).alloc (.cells #[.int .i64 id, .int .i64 ten, .int .i64 set, .slice (some ⟨w1.heap.size, 0, none⟩) 1 1] 24) := ⟨_, rfl⟩
  have B3 : Hid (Below w.heap.size w W3) := by rw [hW3]; exact (B1.out.alloc B1.out.size _).alloc (by have := B1.out.size; simp; omega) _
  have R3 : Hid (W3.heap[w.heap.size]? = some (.cells #[.int .i64 0, .int .i64 0, .int .i64 0, .slice none 0 0] 24 (0, 0))) := by
    have hlt := (Array.getElem?_eq_some_iff.1 R1.out).1
    rw [hW3]
    exact (heap_alloc_old _ _ (by simp; omega)).trans ((heap_alloc_old _ _ hlt).trans R1.out)
  have V3 : W3.heap[w1.heap.size]? = some (.cells #[.int .i64 1, .int .i64 1, .int .i64 0, .slice S l.length c] 30 (0, 0)) := by rw [hW3]; exact heap_alloc2_old w1 _ _
  have K3 : W3.heap[w1.heap.size + 1]? = some (.cells #[.int .i64 id, .int .i64 ten, .int .i64 set, .slice (some ⟨w1.heap.size, 0, none⟩) 1 1] 24 (0, 0)) := by rw [hW3]; exact heap_alloc2_new w1 _ _
  have RD : RdK W3 (some ⟨w1.heap.size, 0, none⟩) 1 K := ⟨by rw [hK]; exact hasV_one V3 ⟨has_next HS.out.1 B3.out, HS.out.2⟩, (fun e => by cases e), by rw [hK]; exact Nat.le_refl 1⟩
  have MK : Hid (MayK K) := by rw [hK]; exact HM
  have hkv : Value.agg #[.int .i64 id, .int .i64 ten, .int .i64 set, .slice (some ⟨w1.heap.size, 0, none⟩) 1 1] = keyVal K (some ⟨w1.heap.size, 0, none⟩) 1 := by rw [hK]; rfl
  have HRD := Lib.hid RD
  have HK3 := Lib.hid K3
  have HKV := Lib.hid hkv
  have HKK := Lib.hid hK
  have few := (may_few MK.out)
  have HF := Lib.hid few
  rw [← hW3, hkv]
  rw [← hK]
  clear hW3 V3 RD hkv hK HM HS R1 B1 K3 few
  refine (pMay_any K _ 1 W3 HRD.out HF.out).mono ?_
  rw [mayKC_yes MK.out]
  rintro e w4 ⟨rfl, hb⟩
  have B4 := Lib.hid (below_next B3.out hb)
  have R4 : Hid (w4.heap[w.heap.size]? = _) := (hb.block _ (Array.getElem?_eq_some_iff.1 R3.out).1).trans R3.out
  have K4 : Hid (w4.heap[w1.heap.size + 1]? = _) := (hb.block _ (Array.getElem?_eq_some_iff.1 HK3.out).1).trans HK3.out
  have RD4 := Lib.hid (HRD.out.next hb)
  have y0 := cell_of_row _ _ 0 _ _ _ K4.out
  have y1 := cell_of_row _ _ 1 _ _ _ K4.out
  have y2 := cell_of_row _ _ 2 _ _ _ K4.out
  have y3 := cell_of_row _ _ 3 _ _ _ K4.out
  clear hb R3 B3 HK3 HRD K4
  go_wp2_with fail
  clear y0 y1 y2 y3
  rw [HKV.out]
  refine (copied_any K _ 1 w4 RD4.out (by have := HF.out.1; omega) (fun k hk => by have := HF.out.2 k hk; omega)).mono ?_
  rintro e w5 ⟨S5, rfl, ho, hb⟩
  have B5 := Lib.hid (below_next B4.out hb)
  have R5 : Hid (w5.heap[w.heap.size]? = _) := (hb.block _ (Array.getElem?_eq_some_iff.1 R4.out).1).trans R4.out
  have RD5 := Lib.hid ho
  clear hb ho R4 RD4
  obtain ⟨V, hV⟩ : ∃ V : Array Value, V = #[.int .i64 K.id, .int .i64 K.ten, .int .i64 K.set, .slice S5.1 K.vs.length S5.2] := ⟨_, rfl⟩
  have HV1 : Hid (V.all (·.oneCell') = true) := by show _ = _; rw [hV]; simp [Value.oneCell']
  have HV2 : Hid (V.size = 4) := by show _ = _; rw [hV]; rfl
  have hke : keyVal K S5.1 S5.2 = .agg V := by rw [hV]; rfl
  have HVV := Lib.hid hke
  rw [hke]
  clear hV hke
  go_wp2_with (refine wpList_store_row rfl 24 _ _ rfl w.heap.size V rfl rfl 24 _ R5.out (by rw [HV2.out]; exact HI.out) (by rw [HV2.out]; rfl) HV1.out ?_)
  refine bodyPost_ret (v := .tuple #[.agg V, .nilIface]) ?_ rfl ?_
  · refine Eq.trans (results_cell2 (p := 8) (a := 9) (ty := 24) ?h _ _ w.heap.size 24 V (0, 0) _ ?hp (setRow_heap _ _ _ _ 24 (0, 0) R5.out) Tryd.underlying24 rfl (by rw [HV2.out]; exact HI.out)) rfl
    case h => rfl
    case hp => rfl
  show KeyOwn _ w _ _
  rw [← HKK.out]
  refine ⟨S5, by rw [HVV.out], OwnK.down (RD5.out.set R5.out (by decide) (by decide)) B4.out.size, below_setRow B5.out (Nat.le_refl _) _⟩

theorem step_store_row {P : Program} {ops : Array Oper} {o : Oper} {a : Act} {w : World} {K : Act → World → Prop} {Q : Exit → Act → World → Prop} {E : Prop} (hgd : o.guard = none) (ty : TypeId) (x y : Operand) (ho : o.op = .store ty x y)
    (g : Nat) (cells : Array Value) (hx : a.eval x = .pointer (some ⟨g, 0, none⟩)) (hy : a.eval y = .agg cells)
    (t : TypeId) (old : Array Value) (hg : w.heap[g]? = some (.cells old t (0, 0))) (hi : (P.info? ty).map (·.size) = some cells.size)
    (hold : old.size = cells.size) (h1 : cells.all (·.oneCell') = true)
    (h : K (a.put o.dst undef) (w.setRow g cells)) : if Region.wanted o (yielded ops a.tmps) = true then Oper.wp P o a w K Q else E := by
  have hw : Region.wanted o (yielded ops a.tmps) = true := by simp [Region.wanted, hgd]
  rw [if_pos hw]
  exact wp_store_row ty x y ho g cells hx hy t old hg hi hold h1 h
theorem wrap_nil (x : ByteArray) (w : World) :
    Calls Tryd.prog 20 #[.string x, .nilIface] w fun e w' => e = .returned .nilIface ∧ w = w' := by
  go_enter Tryd.func20, Tryd.ntmps20
  go_wp2
  go_ret
  exact ⟨rfl, rfl⟩
set_option maxRecDepth 100000 in
set_option maxHeartbeats 4000000 in
theorem pNew_yes (id ten set : Int) (S : Option Addr) (c : Nat) (l : List Int) (w : World) (m : MayK ⟨id, ten, set, [⟨1, 1, 0, l⟩]⟩) (h : Has .u8 w w.heap.size S l) (hS : S = none → l.length = 0 ∧ c = 0) (hc : l.length ≤ c) :
    Calls Tryd.prog 14 #[.int .i64 id, .int .i64 ten, .int .i64 set, .slice S l.length c] w (KeyOwn ⟨id, ten, set, [⟨1, 1, 0, l⟩]⟩ w) := by
  have HI : Hid ((Tryd.prog.info? 24).map (·.size) = some 4) := by show _ = _; kernel_rfl
  have r0 : (w.alloc (.cells #[.int .i64 0, .int .i64 0, .int .i64 0, .slice none 0 0] 24)).heap[w.heap.size]? = _ := heap_alloc_new w _
  have hb0 : Below w.heap.size w (w.alloc (.cells #[.int .i64 0, .int .i64 0, .int .i64 0, .slice none 0 0] 24)) := (Below.refl _ _).alloc (Nat.le_refl _) _
  have R0 := Lib.hid r0
  have B0 := Lib.hid hb0
  have HC := Lib.hid (created_yes id ten set S c l (w.alloc (.cells #[.int .i64 0, .int .i64 0, .int .i64 0, .slice none 0 0] 24)) m (has_next h hb0) hS hc)
  clear r0 hb0 m h hS hc
  obtain ⟨K, hK⟩ : ∃ K : KeyV, K = ⟨id, ten, set, [⟨1, 1, 0, l⟩]⟩ := ⟨_, rfl⟩
  rw [← hK] at HC ⊢
  clear hK
  go_enter Tryd.func14, Tryd.ntmps14
  go_wp2_with fail
  generalize World.alloc _ _ = W at R0 B0 HC ⊢
  refine HC.out.mono ?_
  rintro e w1 ⟨⟨A1, c1⟩, rfl, hr, hb⟩
  have R1 : Hid (w1.heap[w.heap.size]? = _) := (hb.block _ (Array.getElem?_eq_some_iff.1 R0.out).1).trans R0.out
  have B1 := Lib.hid (below_next B0.out hb)
  have RD := Lib.hid (OwnK.down hr B0.out.size)
  clear hb hr R0 HC
  unfold keyVal
  simp only at RD ⊢
  go_wp2_with fail
  obtain ⟨W2, hW2⟩ : ∃ W2, W2 = w1.alloc (.cells #[.int .i64 K.id, .int .i64 K.ten, .int .i64 K.set, .slice A1 K.vs.length c1] 24) := ⟨_, rfl⟩
  obtain ⟨g, hg⟩ : ∃ g, g = w1.heap.size := ⟨_, rfl⟩
  have R2 : Hid (W2.heap[w.heap.size]? = some (.cells #[.int .i64 0, .int .i64 0, .int .i64 0, .slice none 0 0] 24 (0, 0))) := by rw [hW2]; exact Lib.hid ((heap_alloc_old _ _ (Array.getElem?_eq_some_iff.1 R1.out).1).trans R1.out)
  have K2 : Hid (W2.heap[g]? = some (.cells #[.int .i64 K.id, .int .i64 K.ten, .int .i64 K.set, .slice A1 K.vs.length c1] 24 (0, 0))) := by rw [hW2, hg]; exact Lib.hid (heap_alloc_new w1 _)
  have L2 : Hid (Below w1.heap.size w1 W2) := by rw [hW2]; exact Lib.hid ((Below.refl _ _).alloc (Nat.le_refl _) _)
  have B2 := Lib.hid (below_next B1.out L2.out)
  have RD2 := Lib.hid (RD.out.next L2.out)
  have no : w.heap.size ≠ g := by have := (Array.getElem?_eq_some_iff.1 R1.out).1; omega
  rw [← hW2, ← hg]
  clear hW2 hg R1 B1 L2 RD
  refine wp_region_held_drew (S := fun W => W.cell? ⟨g, 0, none⟩ = some (.int .i64 K.id) ∧ W.cell? ⟨g, 1, none⟩ = some (.int .i64 K.ten) ∧ W.cell? ⟨g, 2, none⟩ = some (.int .i64 K.set) ∧ W.cell? ⟨g, 3, none⟩ = some (.slice A1 K.vs.length c1)) (by kernel_rfl) ⟨cell_of_row _ _ 0 _ _ _ K2.out, cell_of_row _ _ 1 _ _ _ K2.out, cell_of_row _ _ 2 _ _ _ K2.out, cell_of_row _ _ 3 _ _ _ K2.out⟩ (fun hHeld => ?_)
  refine takeD (i := 0) (d := some 20) (v := .agg #[.int .i64 K.id, .int .i64 K.ten, .int .i64 K.set, .slice A1 K.vs.length c1]) rfl rfl (by kernel_rfl) (by kernel_rfl) (by kernel_rfl) (fun _ _ _ h => h) (Or.inl ⟨by rfl, (by rintro W ⟨z0, z1, z2, z3⟩; go_simp)⟩) hHeld ?_
  try simp only [Act.put, List.setIfInBounds_toArray, List.set_cons_zero, List.set_cons_succ]
  refine takeD (i := 1) (d := some 21) (v := .nilIface) rfl rfl (by kernel_rfl) (by kernel_rfl) (by kernel_rfl) (fun _ _ _ h => h) (Or.inl ⟨by rfl, (by rintro W ⟨z0, z1, z2, z3⟩; go_simp)⟩) hHeld ?_
  try simp only [Act.put, List.setIfInBounds_toArray, List.set_cons_zero, List.set_cons_succ]
  refine wpAnyH_ready (rs := [2]) (by kernel_rfl) (by simp) (AllReadyH.cons rfl (fun KK hK => ?_) AllReadyH.nil)
  go_simp
  refine (wrap_nil _ _).mono ?_
  rintro e w' ⟨rfl, rfl⟩
  refine hK.out _ _ hHeld (fun hHeld => ?_)
  clear hK KK
  try simp only [Act.put, List.setIfInBounds_toArray, List.set_cons_zero, List.set_cons_succ]
  refine wpAnyH_ready (rs := [3]) (by kernel_rfl) (by simp) (AllReadyH.cons rfl (fun KK hK => ?_) AllReadyH.nil)
  refine step_store_row rfl 24 _ _ rfl w.heap.size #[.int .i64 K.id, .int .i64 K.ten, .int .i64 K.set, .slice A1 K.vs.length c1] rfl rfl 24 _ R2.out HI.out rfl (by simp [Value.oneCell']) ?_
  have hK3 : (W2.drew.setRow w.heap.size #[.int .i64 K.id, .int .i64 K.ten, .int .i64 K.set, .slice A1 K.vs.length c1]).heap[g]? = _ := (setRow_other _ _ _ _ (fun e => no e.symm)).trans K2.out
  refine hK.out _ _ ⟨cell_of_row _ _ 0 _ _ _ hK3, cell_of_row _ _ 1 _ _ _ hK3, cell_of_row _ _ 2 _ _ _ hK3, cell_of_row _ _ 3 _ _ _ hK3⟩ (fun hHeld => ?_)
  clear hK KK hK3
  try simp only [Act.put, List.setIfInBounds_toArray]
  refine takeD (i := 4) (d := some 9) (v := .nilIface) rfl rfl (by kernel_rfl) (by kernel_rfl) (by kernel_rfl) (fun _ _ _ h => h) (Or.inl ⟨by rfl, (by rintro W ⟨z0, z1, z2, z3⟩; go_simp)⟩) hHeld ?_
  try simp only [Act.put]
  refine wpAnyH_done (by kernel_rfl) ?_ _
  go_wp2
  refine bodyPost_ret (v := .tuple #[.agg #[.int .i64 K.id, .int .i64 K.ten, .int .i64 K.set, .slice A1 K.vs.length c1], .nilIface]) ?_ rfl ?_
  · refine Eq.trans (results_cell2 (p := 8) (a := 9) (ty := 24) ?h _ _ w.heap.size 24 #[.int .i64 K.id, .int .i64 K.ten, .int .i64 K.set, .slice A1 K.vs.length c1] (0, 0) _ ?hp (setRow_heap _ _ _ _ 24 (0, 0) R2.out) Tryd.underlying24 rfl HI.out) rfl
    case h => rfl
    case hp => rfl
  exact ⟨(A1, c1), rfl, OwnK.set (w := W2.drew) RD2.out R2.out (by decide) (by decide), below_setRow B2.out.drew (Nat.le_refl _) _⟩
end Go.Proofs.YtealebeacddbbaaDoor
