/- Contracts: the sets and sizes, by the document's own code. -/
import Derived.Test.YtoigpehpgpogfaaDoorLd
import Derived.Laws.ResultCell
namespace Go.Proofs.YtoigpehpgpogfaaDoor
open Go.RowKit Slices Go.Proofs.YtoigpehpgpogfaaDoor.Bit

def setN (s : Int) : List Int := if s = 1 then [4, 4, 2, 39, 78, 80, 131072, 95232, 32] else if s = 2 then [6, 5, 4, 49, 196, 55, 524288, 261888, 48] else if s = 3 then [8, 7, 2, 60, 120, 75, 524288, 261888, 64] else [0, 0, 0, 0, 0, 0, 0, 0, 0]
def setB (s : Int) : Bool := s == 1 || s == 2 || s == 3
def setV (s : Int) : Array Value := ((setN s).map (Value.int .i64)).toArray
def sizeN (s : Int) : Int × Int × Int := if s = 1 then (1312, 2560, 2420) else if s = 2 then (1952, 4032, 3309) else if s = 3 then (2592, 4896, 4627) else (0, 0, 0)

set_option maxRecDepth 100000 in
set_option maxHeartbeats 2000000 in
theorem refSet_1 (w : World) : Calls Tryd.prog 14 #[.int .i64 1] w fun e w' => e = .returned (.tuple #[.agg #[.int .i64 4, .int .i64 4, .int .i64 2, .int .i64 39, .int .i64 78, .int .i64 80, .int .i64 131072, .int .i64 95232, .int .i64 32], .bool true]) ∧ Below w.heap.size w w' := by
  go_enter Tryd.func14, Tryd.ntmps14
  go_wp2
  refine bodyPost_ret (v := .tuple #[.agg #[.int .i64 4, .int .i64 4, .int .i64 2, .int .i64 39, .int .i64 78, .int .i64 80, .int .i64 131072, .int .i64 95232, .int .i64 32], .bool true]) ?_ rfl ⟨rfl, (Below.refl _ _).alloc (Nat.le_refl _) _⟩
  rw [results_cell_tmp rfl]
  go_simp

set_option maxRecDepth 100000 in
set_option maxHeartbeats 2000000 in
theorem refSet_2 (w : World) : Calls Tryd.prog 14 #[.int .i64 2] w fun e w' => e = .returned (.tuple #[.agg #[.int .i64 6, .int .i64 5, .int .i64 4, .int .i64 49, .int .i64 196, .int .i64 55, .int .i64 524288, .int .i64 261888, .int .i64 48], .bool true]) ∧ Below w.heap.size w w' := by
  go_enter Tryd.func14, Tryd.ntmps14
  go_wp2
  refine bodyPost_ret (v := .tuple #[.agg #[.int .i64 6, .int .i64 5, .int .i64 4, .int .i64 49, .int .i64 196, .int .i64 55, .int .i64 524288, .int .i64 261888, .int .i64 48], .bool true]) ?_ rfl ⟨rfl, (Below.refl _ _).alloc (Nat.le_refl _) _⟩
  rw [results_cell_tmp rfl]
  go_simp

set_option maxRecDepth 100000 in
set_option maxHeartbeats 2000000 in
theorem refSet_3 (w : World) : Calls Tryd.prog 14 #[.int .i64 3] w fun e w' => e = .returned (.tuple #[.agg #[.int .i64 8, .int .i64 7, .int .i64 2, .int .i64 60, .int .i64 120, .int .i64 75, .int .i64 524288, .int .i64 261888, .int .i64 64], .bool true]) ∧ Below w.heap.size w w' := by
  go_enter Tryd.func14, Tryd.ntmps14
  go_wp2
  refine bodyPost_ret (v := .tuple #[.agg #[.int .i64 8, .int .i64 7, .int .i64 2, .int .i64 60, .int .i64 120, .int .i64 75, .int .i64 524288, .int .i64 261888, .int .i64 64], .bool true]) ?_ rfl ⟨rfl, (Below.refl _ _).alloc (Nat.le_refl _) _⟩
  rw [results_cell_tmp rfl]
  go_simp

set_option maxRecDepth 100000 in
set_option maxHeartbeats 2000000 in
theorem refSet_0 (s : Int) (w : World) (h1 : s ≠ 1) (h2 : s ≠ 2) (h3 : s ≠ 3) : Calls Tryd.prog 14 #[.int .i64 s] w fun e w' => e = .returned (.tuple #[.agg #[.int .i64 0, .int .i64 0, .int .i64 0, .int .i64 0, .int .i64 0, .int .i64 0, .int .i64 0, .int .i64 0, .int .i64 0], .bool false]) ∧ Below w.heap.size w w' := by
  have d1 : (s == 1) = false := by rw [beq_eq_false_iff_ne]; exact h1
  have d2 : (s == 2) = false := by rw [beq_eq_false_iff_ne]; exact h2
  have d3 : (s == 3) = false := by rw [beq_eq_false_iff_ne]; exact h3
  clear h1 h2 h3
  go_enter Tryd.func14, Tryd.ntmps14
  go_wp2
  refine bodyPost_ret (v := .tuple #[.agg #[.int .i64 0, .int .i64 0, .int .i64 0, .int .i64 0, .int .i64 0, .int .i64 0, .int .i64 0, .int .i64 0, .int .i64 0], .bool false]) ?_ rfl ⟨rfl, (Below.refl _ _).alloc (Nat.le_refl _) _⟩
  rw [results_cell_tmp rfl]
  go_simp
theorem struct_cell {w1 w2 : World} {cs : Array Value} {t : TypeId} (hb : Below (w1.alloc (.cells cs t)).heap.size (w1.alloc (.cells cs t)) w2) (k : Nat) : w2.cell? ⟨w1.heap.size, k, none⟩ = cs[k]? := by
  have h : w2.heap[w1.heap.size]? = some (.cells cs t (0, 0)) := (hb.block _ (by simp)).trans (heap_alloc_new w1 _)
  exact cell_of_row _ _ k _ _ _ h
theorem struct_below {w w1 w2 : World} {o : Obj} (h : Below w.heap.size w w1) (hb : Below (w1.alloc o).heap.size (w1.alloc o) w2) : Below w.heap.size w w2 := (h.alloc h.size _).trans (hb.mono (by have := h.size; simp; omega))
theorem set_cases (s : Int) : s = 1 ∨ s = 2 ∨ s = 3 ∨ (s ≠ 1 ∧ s ≠ 2 ∧ s ≠ 3) := by omega
theorem refSet_any (s : Int) (w : World) : Calls Tryd.prog 14 #[.int .i64 s] w fun e w' => e = .returned (.tuple #[.agg (setV s), .bool (setB s)]) ∧ Below w.heap.size w w' := by
  rcases set_cases s with rfl | rfl | rfl | ⟨h1, h2, h3⟩
  · exact refSet_1 w
  · exact refSet_2 w
  · exact refSet_3 w
  · have e1 : setV s = #[.int .i64 0, .int .i64 0, .int .i64 0, .int .i64 0, .int .i64 0, .int .i64 0, .int .i64 0, .int .i64 0, .int .i64 0] := by unfold setV setN; rw [if_neg h1, if_neg h2, if_neg h3]; rfl
    have e2 : setB s = false := by unfold setB; simp [h1, h2, h3]
    rw [e1, e2]
    exact refSet_0 s w h1 h2 h3

set_option maxRecDepth 100000 in
set_option maxHeartbeats 2000000 in
theorem refWide_1 (w : World) : Calls Tryd.prog 44 #[.agg #[.int .i64 4, .int .i64 4, .int .i64 2, .int .i64 39, .int .i64 78, .int .i64 80, .int .i64 131072, .int .i64 95232, .int .i64 32]] w fun e w' => e = .returned (.tuple #[.int .i64 18, .int .i64 3]) ∧ Below w.heap.size w w' := by
  go_enter Tryd.func44, Tryd.ntmps44
  go_wp2
  go_ret2
  exact ⟨rfl, (Below.refl _ _).alloc (Nat.le_refl _) _⟩
set_option maxRecDepth 100000 in
set_option maxHeartbeats 4000000 in
theorem refSizes_1 (w : World) : Calls Tryd.prog 16 #[.int .i64 1] w fun e w' => e = .returned (.tuple #[.int .i64 1312, .int .i64 2560, .int .i64 2420]) ∧ Below w.heap.size w w' := by
  go_enter Tryd.func16, Tryd.ntmps16
  go_wp2_with (first
    | (go_at_call 14; refine (refSet_1 _).mono ?_; rintro e w1 ⟨rfl, hb⟩; have HB := Lib.hid hb; clear hb)
    | (go_at_call 44; refine (refWide_1 _).mono ?_; rintro e w2 ⟨rfl, hb⟩; have HB2 := Lib.hid hb; clear hb))
  have c0 := struct_cell HB2.out 0
  have c1 := struct_cell HB2.out 1
  have c5 := struct_cell HB2.out 5
  have c8 := struct_cell HB2.out 8
  simp only [List.getElem?_toArray, List.getElem?_cons_zero, List.getElem?_cons_succ] at c0 c1 c5 c8
  have HBB := Lib.hid (struct_below HB.out HB2.out)
  clear HB HB2
  go_quiet (fail)
  go_wp2
  go_ret3
  exact ⟨rfl, below_drewN HBB.out _⟩
set_option maxRecDepth 100000 in
set_option maxHeartbeats 2000000 in
theorem refWide_2 (w : World) : Calls Tryd.prog 44 #[.agg #[.int .i64 6, .int .i64 5, .int .i64 4, .int .i64 49, .int .i64 196, .int .i64 55, .int .i64 524288, .int .i64 261888, .int .i64 48]] w fun e w' => e = .returned (.tuple #[.int .i64 20, .int .i64 4]) ∧ Below w.heap.size w w' := by
  go_enter Tryd.func44, Tryd.ntmps44
  go_wp2
  go_ret2
  exact ⟨rfl, (Below.refl _ _).alloc (Nat.le_refl _) _⟩
set_option maxRecDepth 100000 in
set_option maxHeartbeats 4000000 in
theorem refSizes_2 (w : World) : Calls Tryd.prog 16 #[.int .i64 2] w fun e w' => e = .returned (.tuple #[.int .i64 1952, .int .i64 4032, .int .i64 3309]) ∧ Below w.heap.size w w' := by
  go_enter Tryd.func16, Tryd.ntmps16
  go_wp2_with (first
    | (go_at_call 14; refine (refSet_2 _).mono ?_; rintro e w1 ⟨rfl, hb⟩; have HB := Lib.hid hb; clear hb)
    | (go_at_call 44; refine (refWide_2 _).mono ?_; rintro e w2 ⟨rfl, hb⟩; have HB2 := Lib.hid hb; clear hb))
  have c0 := struct_cell HB2.out 0
  have c1 := struct_cell HB2.out 1
  have c5 := struct_cell HB2.out 5
  have c8 := struct_cell HB2.out 8
  simp only [List.getElem?_toArray, List.getElem?_cons_zero, List.getElem?_cons_succ] at c0 c1 c5 c8
  have HBB := Lib.hid (struct_below HB.out HB2.out)
  clear HB HB2
  go_quiet (fail)
  go_wp2
  go_ret3
  exact ⟨rfl, below_drewN HBB.out _⟩
set_option maxRecDepth 100000 in
set_option maxHeartbeats 2000000 in
theorem refWide_3 (w : World) : Calls Tryd.prog 44 #[.agg #[.int .i64 8, .int .i64 7, .int .i64 2, .int .i64 60, .int .i64 120, .int .i64 75, .int .i64 524288, .int .i64 261888, .int .i64 64]] w fun e w' => e = .returned (.tuple #[.int .i64 20, .int .i64 3]) ∧ Below w.heap.size w w' := by
  go_enter Tryd.func44, Tryd.ntmps44
  go_wp2
  go_ret2
  exact ⟨rfl, (Below.refl _ _).alloc (Nat.le_refl _) _⟩
set_option maxRecDepth 100000 in
set_option maxHeartbeats 4000000 in
theorem refSizes_3 (w : World) : Calls Tryd.prog 16 #[.int .i64 3] w fun e w' => e = .returned (.tuple #[.int .i64 2592, .int .i64 4896, .int .i64 4627]) ∧ Below w.heap.size w w' := by
  go_enter Tryd.func16, Tryd.ntmps16
  go_wp2_with (first
    | (go_at_call 14; refine (refSet_3 _).mono ?_; rintro e w1 ⟨rfl, hb⟩; have HB := Lib.hid hb; clear hb)
    | (go_at_call 44; refine (refWide_3 _).mono ?_; rintro e w2 ⟨rfl, hb⟩; have HB2 := Lib.hid hb; clear hb))
  have c0 := struct_cell HB2.out 0
  have c1 := struct_cell HB2.out 1
  have c5 := struct_cell HB2.out 5
  have c8 := struct_cell HB2.out 8
  simp only [List.getElem?_toArray, List.getElem?_cons_zero, List.getElem?_cons_succ] at c0 c1 c5 c8
  have HBB := Lib.hid (struct_below HB.out HB2.out)
  clear HB HB2
  go_quiet (fail)
  go_wp2
  go_ret3
  exact ⟨rfl, below_drewN HBB.out _⟩
set_option maxRecDepth 100000 in
set_option maxHeartbeats 2000000 in
theorem refSizes_0 (s : Int) (w : World) (h1 : s ≠ 1) (h2 : s ≠ 2) (h3 : s ≠ 3) : Calls Tryd.prog 16 #[.int .i64 s] w fun e w' => e = .returned (.tuple #[.int .i64 0, .int .i64 0, .int .i64 0]) ∧ Below w.heap.size w w' := by
  go_enter Tryd.func16, Tryd.ntmps16
  go_wp2_with (go_at_call 14; refine (refSet_0 s _ h1 h2 h3).mono ?_; rintro e w1 ⟨rfl, hb⟩; have HB := Lib.hid hb; clear hb)
  go_ret3
  exact ⟨rfl, HB.out.alloc HB.out.size _⟩
theorem refSizes_any (s : Int) (w : World) : Calls Tryd.prog 16 #[.int .i64 s] w fun e w' => e = .returned (.tuple #[.int .i64 (sizeN s).1, .int .i64 (sizeN s).2.1, .int .i64 (sizeN s).2.2]) ∧ Below w.heap.size w w' := by
  rcases set_cases s with rfl | rfl | rfl | ⟨h1, h2, h3⟩
  · exact refSizes_1 w
  · exact refSizes_2 w
  · exact refSizes_3 w
  · have e1 : sizeN s = (0, 0, 0) := by unfold sizeN; rw [if_neg h1, if_neg h2, if_neg h3]
    rw [e1]
    exact refSizes_0 s w h1 h2 h3
end Go.Proofs.YtoigpehpgpogfaaDoor
