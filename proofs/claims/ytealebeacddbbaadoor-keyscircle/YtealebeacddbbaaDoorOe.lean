/- Contracts: a version is found, by the program's own code. -/
import Derived.Test.YtealebeacddbbaaDoorOd
namespace Go.Proofs.YtealebeacddbbaaDoor
open Go.RowKit Slices

set_option maxRecDepth 100000 in
set_option maxHeartbeats 2000000 in
theorem isThere_any (K : KeyV) (n : Int) (A : Option Addr) (c : Nat) (w : World) :
    Calls Tryd.prog 17 #[keyVal K A c, .int .i64 n] w fun e w' => e = .returned (.bool (decide (1 ≤ n ∧ n ≤ (K.vs.length : Int)))) ∧ Below w.heap.size w w' := by
  unfold keyVal
  generalize K.vs.length = m
  go_enter Tryd.func17, Tryd.ntmps17
  go_wp2_with (go_at_call 12; refine (among_any n m _).mono ?_; rintro e w' ⟨rfl, rfl⟩)
  go_ret
  exact ⟨ret_bool (by simp), (Below.refl _ _).alloc (Nat.le_refl _) _⟩

theorem cells5 {w : World} {A : Option Addr} {l : List Ver} {k : Nat} (h : HasV w w.heap.size A l) (hk : k < l.length) : ∃ (a : Addr) (S : Option Addr) (c : Nat), A = some a ∧ a.block < w.heap.size ∧ w.cell? (a.add (k * 4)) = some (.int .i64 (vg l k).n) ∧ w.cell? ⟨(a.add (k * 4)).block, (a.add (k * 4)).off + 1, none⟩ = some (.int .i64 (vg l k).st) ∧ w.cell? ⟨(a.add (k * 4)).block, (a.add (k * 4)).off + 2, none⟩ = some (.int .i64 (vg l k).due) ∧ w.cell? ⟨(a.add (k * 4)).block, (a.add (k * 4)).off + 3, none⟩ = some (.slice S (vg l k).seed.length c) ∧ SeedIn w w.heap.size (S, c) (vg l k).seed := by
  obtain ⟨a, S, c, e, hab, c0, c1, c2, c3, hs, h1, h2⟩ := h k hk
  exact ⟨a, S, c, e, hab, c0, c1, c2, c3, hs, h1, h2⟩
set_option maxRecDepth 100000 in
set_option maxHeartbeats 4000000 in
theorem pFind_yes (K : KeyV) (n : Int) (A : Option Addr) (c : Nat) (w : World) (h : RdK w A c K) (m : MayK K) (h1 : 1 ≤ n) (h2 : n ≤ (K.vs.length : Int)) :
    Calls Tryd.prog 8 #[keyVal K A c, .int .i64 n] w (VerTold (vg K.vs (n - 1).toNat) w) := by
  have HI : Hid ((Tryd.prog.info? 30).map (·.size) = some 4) := by show _ = _; kernel_rfl
  obtain ⟨i, hi⟩ : ∃ i : Nat, n = (i : Int) + 1 := ⟨(n - 1).toNat, by omega⟩
  have hidx : (n - 1).toNat = i := by omega
  rw [hidx]
  have hlt : i < K.vs.length := by omega
  have HM := Lib.hid m
  have HLT := Lib.hid hlt
  have few := m.few
  have HF := Lib.hid (may_few m)
  obtain ⟨W, hW⟩ : ∃ W, W = (w.alloc (.cells #[.int .i64 K.id, .int .i64 K.ten, .int .i64 K.set, .slice A K.vs.length c] 24)).alloc (.cells #[.int .i64 0, .int .i64 0, .int .i64 0, .slice none 0 0] 30) := ⟨_, rfl⟩
  have hb0 : Below w.heap.size w W := by rw [hW]; exact ((Below.refl _ _).alloc (Nat.le_refl _) _).alloc (by simp) _
  have r0 : W.heap[w.heap.size]? = some (.cells #[.int .i64 K.id, .int .i64 K.ten, .int .i64 K.set, .slice A K.vs.length c] 24 (0, 0)) := by rw [hW]; exact heap_alloc2_old w _ _
  have r1 : W.heap[w.heap.size + 1]? = some (.cells #[.int .i64 0, .int .i64 0, .int .i64 0, .slice none 0 0] 30 (0, 0)) := by rw [hW]; exact heap_alloc2_new w _ _
  have R0 := Lib.hid r0
  have R1 := Lib.hid r1
  have B0 := Lib.hid hb0
  have RD := Lib.hid (h.next hb0)
  have HY := Lib.hid (decide_eq_true (⟨by omega, by omega⟩ : 1 ≤ (i : Int) + 1 ∧ (i : Int) + 1 ≤ (K.vs.length : Int)))
  clear m hb0 r0 r1 h h1 h2 hidx
  subst hi
  unfold keyVal
  go_enter Tryd.func8, Tryd.ntmps8
  go_wp2_with fail
  rw [← hW]
  clear hW
  refine (pMay_any K A c W RD.out HF.out).mono ?_
  rw [mayKC_yes HM.out]
  rintro e w1 ⟨rfl, hb⟩
  have B1 := Lib.hid (below_next B0.out hb)
  have R01 : Hid (w1.heap[w.heap.size]? = _) := (hb.block _ (Array.getElem?_eq_some_iff.1 R0.out).1).trans R0.out
  have R11 : Hid (w1.heap[w.heap.size + 1]? = _) := (hb.block _ (Array.getElem?_eq_some_iff.1 R1.out).1).trans R1.out
  have RD1 := Lib.hid (RD.out.next hb)
  clear hb R0 R1 RD B0
  have y0 := cell_of_row _ _ 0 _ _ _ R01.out
  have y1 := cell_of_row _ _ 1 _ _ _ R01.out
  have y2 := cell_of_row _ _ 2 _ _ _ R01.out
  have y3 := cell_of_row _ _ 3 _ _ _ R01.out
  go_wp2_with fail
  clear y0 y1 y2 y3
  refine (isThere_any K ((i : Int) + 1) A c w1).mono ?_
  rw [HY.out]
  rintro e w2 ⟨rfl, hb⟩
  have B2 := Lib.hid (below_next B1.out hb)
  have R02 : Hid (w2.heap[w.heap.size]? = _) := (hb.block _ (Array.getElem?_eq_some_iff.1 R01.out).1).trans R01.out
  have R12 : Hid (w2.heap[w.heap.size + 1]? = _) := (hb.block _ (Array.getElem?_eq_some_iff.1 R11.out).1).trans R11.out
  have RD2 := Lib.hid (RD1.out.next hb)
  clear hb R01 R11 RD1 B1
  have y3 := cell_of_row _ _ 3 _ _ _ R02.out
  have hlt2 : (i : Int) < (K.vs.length : Int) := by omega
  obtain ⟨a, S, cs, rfl, hab, a0, a1, a2, a3, hs⟩ := cells5 RD2.out.has (k := i) hlt
  have e1 : (i : Int) + 1 - 1 = (i : Int) := by omega
  go_wp2_with fail
  refine (alone_any (vg K.vs i) (S, cs) w2 hs (by have := HF.out.2 i HLT.out; omega)).mono ?_
  rintro e w3 ⟨S3, rfl, ho, hb⟩
  have B3 := Lib.hid (below_next B2.out hb)
  have R13 : Hid (w3.heap[w.heap.size + 1]? = _) := (hb.block _ (Array.getElem?_eq_some_iff.1 R12.out).1).trans R12.out
  clear hb ho R02 R12 RD2 B2 hs a0 a1 a2 a3 y3
  obtain ⟨v, hv⟩ : ∃ v, v = vg K.vs i := ⟨_, rfl⟩
  rw [← hv]
  have HVE := Lib.hid hv
  clear hv
  obtain ⟨V, hV⟩ : ∃ V : Array Value, V = #[.int .i64 v.n, .int .i64 v.st, .int .i64 v.due, .slice S3.1 v.seed.length S3.2] := ⟨_, rfl⟩
  have HV1 : Hid (V.all (·.oneCell') = true) := by show _ = _; rw [hV]; simp [Value.oneCell']
  have HV2 : Hid (V.size = 4) := by show _ = _; rw [hV]; rfl
  have hke : verVal v S3 = .agg V := by rw [hV]; rfl
  have HVV := Lib.hid hV
  rw [hke]
  clear hV hke
  go_wp2_with (refine wpList_store_row rfl 30 _ _ rfl (w.heap.size + 1) V rfl rfl 30 _ R13.out (by rw [HV2.out]; exact HI.out) (by rw [HV2.out]; rfl) HV1.out ?_)
  refine bodyPost_ret (v := .tuple #[.agg V, .bool true]) ?_ rfl ?_
  · refine Eq.trans (results_cell2 (p := 4) (a := 5) (ty := 30) ?h _ _ (w.heap.size + 1) 30 V (0, 0) _ ?hp (setRow_heap _ _ _ _ 30 (0, 0) R13.out) Tryd.underlying30 rfl (by rw [HV2.out]; exact HI.out)) rfl
    case h => rfl
    case hp => rfl
  exact ⟨S3.1, v.seed.length, S3.2, by rw [HVV.out, ← HVE.out], below_setRow B3.out (by omega) _⟩
end Go.Proofs.YtealebeacddbbaaDoor
