/- Contracts: a change that is not refused, by the program's own code. -/
import Derived.Test.YtealebeacddbbaaDoorOg
namespace Go.Proofs.YtealebeacddbbaaDoor
open Go.RowKit Slices

set_option maxRecDepth 100000 in
set_option maxHeartbeats 2000000 in
theorem refusal_yes (K : KeyV) (op n till clock : Int) (A : Option Addr) (c : Nat) (w : World) (h : RdK w A c K) (hq : Asked K op n) (hf : From op (vg K.vs (n - 1).toNat).st) (ht : op = 7 → clock < till ∧ 1 ≤ till ∧ till ≤ 1099511627776) :
    Calls Tryd.prog 28 #[keyVal K A c, .int .i64 op, .int .i64 n, .int .i64 till, .int .i64 clock] w fun e w' => e = .returned .nilIface ∧ Below w.heap.size w w' := by
  obtain ⟨i, hi⟩ : ∃ i : Nat, n = (i : Int) + 1 := ⟨(n - 1).toNat, by have := hq.n1; omega⟩
  have hidx : (n - 1).toNat = i := by omega
  rw [hidx] at hf
  have HQ := Lib.hid hq
  have hlt : i < K.vs.length := by have := hq.n2; omega
  have few := hq.may.few
  have HFR := Lib.hid hf
  have HTM := Lib.hid ht
  obtain ⟨W, hW⟩ : ∃ W, W = w.alloc (.cells #[.int .i64 K.id, .int .i64 K.ten, .int .i64 K.set, .slice A K.vs.length c] 24) := ⟨_, rfl⟩
  have hb0 : Below w.heap.size w W := by rw [hW]; exact (Below.refl _ _).alloc (Nat.le_refl _) _
  have r0 : W.heap[w.heap.size]? = some (.cells #[.int .i64 K.id, .int .i64 K.ten, .int .i64 K.set, .slice A K.vs.length c] 24 (0, 0)) := by rw [hW]; exact heap_alloc_new w _
  have R0 := Lib.hid r0
  have B0 := Lib.hid hb0
  have RD := Lib.hid (h.next hb0)
  clear hq hb0 r0 h hf ht hidx
  subst hi
  unfold keyVal
  go_enter Tryd.func28, Tryd.ntmps28
  go_wp2_with fail
  rw [← hW]
  clear hW
  refine (haveKey_yes K A c W RD.out HQ.out.may).mono ?_
  rintro e w1 ⟨rfl, hb⟩
  have B1 := Lib.hid (below_next B0.out hb)
  have R1 : Hid (w1.heap[w.heap.size]? = _) := (hb.block _ (Array.getElem?_eq_some_iff.1 R0.out).1).trans R0.out
  have RD1 := Lib.hid (RD.out.next hb)
  clear hb R0 RD B0
  go_wp2_with fail
  refine (turn_any op w1 HQ.out.lo HQ.out.hi).mono ?_
  rintro e w2 ⟨af, cf, rfl, hs, hfc, hb⟩
  have B2 := Lib.hid (below_next B1.out hb)
  have R2 : Hid (w2.heap[w.heap.size]? = _) := (hb.block _ (Array.getElem?_eq_some_iff.1 R1.out).1).trans R1.out
  have RD2 := Lib.hid (RD1.out.next hb)
  have HS2 := Lib.hid hs
  clear hb R1 RD1 B1 hs
  have t0 : (toS op != 0) = true := by rw [bne_iff_ne]; exact toS_pos op
  have h3 := toS_doom (op := op)
  generalize toS op = tt at t0 h3 ⊢
  have H3 := Lib.hid h3
  clear h3
  go_wp2_with fail
  refine (unless_yes2 _ _ w2 (by first | rfl | exact t0)).mono ?_
  rintro e w' ⟨rfl, rfl⟩
  have y0 := cell_of_row _ _ 0 _ _ _ R2.out
  have y1 := cell_of_row _ _ 1 _ _ _ R2.out
  have y2 := cell_of_row _ _ 2 _ _ _ R2.out
  have y3 := cell_of_row _ _ 3 _ _ _ R2.out
  go_wp2_with fail
  clear y0 y1 y2 y3
  refine (haveVersion_yes K ((i : Int) + 1) A c w2 ⟨HQ.out.n1, HQ.out.n2⟩).mono ?_
  rintro e w3 ⟨rfl, hb⟩
  have B3 := Lib.hid (below_next B2.out hb)
  have R3 : Hid (w3.heap[w.heap.size]? = _) := (hb.block _ (Array.getElem?_eq_some_iff.1 R2.out).1).trans R2.out
  have RD3 := Lib.hid (RD2.out.next hb)
  have HS3 := Lib.hid (has_next HS2.out hb)
  clear hb R2 RD2 B2 HS2
  have y3 := cell_of_row _ _ 3 _ _ _ R3.out
  obtain ⟨a, S, cs, rfl, hab, a0, a1, a2, a3, hs⟩ := cells5 RD3.out.has (k := i) hlt
  have e1 : (i : Int) + 1 - 1 = (i : Int) := by omega
  have hlt2 : (i : Int) < (K.vs.length : Int) := by omega
  clear hab a0 a2 a3 hs
  go_wp2_with fail
  refine (contains_any (fromL op) (vg K.vs i).st af (fromL op).length cf w3 rfl HS3.out (by unfold fromL; split <;> (try split) <;> (try split) <;> decide)).mono ?_
  rintro e w4 ⟨b, rfl, hb, rfl⟩
  have hb0 : b = true := hb.2 ((from_mem HQ.out.lo HQ.out.hi _).2 HFR.out)
  clear hb y3 a1
  subst hb0
  go_wp2_with fail
  refine (unless_yes2 _ _ w3 rfl).mono ?_
  rintro e w' ⟨rfl, rfl⟩
  by_cases h7 : op = 7
  · obtain rfl := H3.out.2 h7
    obtain ⟨z1, z2⟩ := HTM.out h7
    have hz := decide_eq_true z2
    clear z2
    go_wp2_with fail
    refine (among_any till 1099511627776 w3).mono ?_
    rw [hz]
    rintro e w' ⟨rfl, rfl⟩
    go_wp2_with fail
    refine (unless_yes2 _ _ w3 (by first | rfl | simp)).mono ?_
    rintro e w' ⟨rfl, rfl⟩
    go_wp2
    go_ret
    exact ⟨rfl, B3.out⟩
  · have t1 : (tt != 3) = true := by rw [bne_iff_ne]; exact fun e => h7 (H3.out.1 e)
    go_wp2_with fail
    refine (unless_yes2 _ _ w3 (by first | rfl | exact t1)).mono ?_
    rintro e w' ⟨rfl, rfl⟩
    go_wp2
    go_ret
    exact ⟨rfl, B3.out⟩
end Go.Proofs.YtealebeacddbbaaDoor
