/- Contracts: the program's sets and sizes. -/
import Derived.Test.YtoigpehpgpogfaaDoorLe
import Derived.Test.YtoigpehpgpogfaaDoorNa
namespace Go.Proofs.YtoigpehpgpogfaaDoor
open Go.RowKit Slices Go.Proofs.YtoigpehpgpogfaaDoor.Bit

theorem sizeW_lit (d v : Int) (w : World) (h0 : 0 ≤ d) (h1 : d ≤ 1000) (e : 32 * d = v) :
    Calls Tryd.prog 42 #[.int .i64 d] w fun e w' => e = .returned (.int .i64 v) ∧ w = w' := by
  obtain ⟨n, rfl⟩ := Int.eq_ofNat_of_zero_le h0
  subst e
  exact (sizeW_any n w (by omega)).mono fun e w' h => ⟨by rw [h.1]; exact ret_int (by omega), h.2⟩
theorem widthOf_lit (x v : Int) (n : Nat) (w : World) (hx : x = n) (hn : n ≤ 2097152) (e : (blen n : Int) = v) :
    Calls Tryd.prog 41 #[.int .i64 x] w fun e w' => e = .returned (.int .i64 v) ∧ w = w' := by
  subst hx
  subst e
  exact widthOf_any n w hn

set_option maxRecDepth 100000 in
set_option maxHeartbeats 2000000 in
theorem pSet_1 (w : World) : Calls Tryd.prog 13 #[.int .i64 1] w fun e w' => e = .returned (.tuple #[.agg #[.int .i64 4, .int .i64 4, .int .i64 2, .int .i64 39, .int .i64 78, .int .i64 80, .int .i64 131072, .int .i64 95232, .int .i64 32], .bool true]) ∧ Below w.heap.size w w' := by
  go_enter Tryd.func13, Tryd.ntmps13
  go_wp2
  refine bodyPost_ret (v := .tuple #[.agg #[.int .i64 4, .int .i64 4, .int .i64 2, .int .i64 39, .int .i64 78, .int .i64 80, .int .i64 131072, .int .i64 95232, .int .i64 32], .bool true]) ?_ rfl ⟨rfl, (Below.refl _ _).alloc (Nat.le_refl _) _⟩
  rw [results_cell_tmp rfl]
  go_simp

set_option maxRecDepth 100000 in
set_option maxHeartbeats 2000000 in
theorem pSet_2 (w : World) : Calls Tryd.prog 13 #[.int .i64 2] w fun e w' => e = .returned (.tuple #[.agg #[.int .i64 6, .int .i64 5, .int .i64 4, .int .i64 49, .int .i64 196, .int .i64 55, .int .i64 524288, .int .i64 261888, .int .i64 48], .bool true]) ∧ Below w.heap.size w w' := by
  go_enter Tryd.func13, Tryd.ntmps13
  go_wp2
  refine bodyPost_ret (v := .tuple #[.agg #[.int .i64 6, .int .i64 5, .int .i64 4, .int .i64 49, .int .i64 196, .int .i64 55, .int .i64 524288, .int .i64 261888, .int .i64 48], .bool true]) ?_ rfl ⟨rfl, (Below.refl _ _).alloc (Nat.le_refl _) _⟩
  rw [results_cell_tmp rfl]
  go_simp

set_option maxRecDepth 100000 in
set_option maxHeartbeats 2000000 in
theorem pSet_3 (w : World) : Calls Tryd.prog 13 #[.int .i64 3] w fun e w' => e = .returned (.tuple #[.agg #[.int .i64 8, .int .i64 7, .int .i64 2, .int .i64 60, .int .i64 120, .int .i64 75, .int .i64 524288, .int .i64 261888, .int .i64 64], .bool true]) ∧ Below w.heap.size w w' := by
  go_enter Tryd.func13, Tryd.ntmps13
  go_wp2
  refine bodyPost_ret (v := .tuple #[.agg #[.int .i64 8, .int .i64 7, .int .i64 2, .int .i64 60, .int .i64 120, .int .i64 75, .int .i64 524288, .int .i64 261888, .int .i64 64], .bool true]) ?_ rfl ⟨rfl, (Below.refl _ _).alloc (Nat.le_refl _) _⟩
  rw [results_cell_tmp rfl]
  go_simp

set_option maxRecDepth 100000 in
set_option maxHeartbeats 2000000 in
theorem pSet_0 (s : Int) (w : World) (h1 : s ≠ 1) (h2 : s ≠ 2) (h3 : s ≠ 3) : Calls Tryd.prog 13 #[.int .i64 s] w fun e w' => e = .returned (.tuple #[.agg #[.int .i64 0, .int .i64 0, .int .i64 0, .int .i64 0, .int .i64 0, .int .i64 0, .int .i64 0, .int .i64 0, .int .i64 0], .bool false]) ∧ Below w.heap.size w w' := by
  have d1 : (s == 1) = false := by rw [beq_eq_false_iff_ne]; exact h1
  have d2 : (s == 2) = false := by rw [beq_eq_false_iff_ne]; exact h2
  have d3 : (s == 3) = false := by rw [beq_eq_false_iff_ne]; exact h3
  clear h1 h2 h3
  go_enter Tryd.func13, Tryd.ntmps13
  go_wp2
  refine bodyPost_ret (v := .tuple #[.agg #[.int .i64 0, .int .i64 0, .int .i64 0, .int .i64 0, .int .i64 0, .int .i64 0, .int .i64 0, .int .i64 0, .int .i64 0], .bool false]) ?_ rfl ⟨rfl, (Below.refl _ _).alloc (Nat.le_refl _) _⟩
  rw [results_cell_tmp rfl]
  go_simp
theorem pSet_any (s : Int) (w : World) : Calls Tryd.prog 13 #[.int .i64 s] w fun e w' => e = .returned (.tuple #[.agg (setV s), .bool (setB s)]) ∧ Below w.heap.size w w' := by
  rcases set_cases s with rfl | rfl | rfl | ⟨h1, h2, h3⟩
  · exact pSet_1 w
  · exact pSet_2 w
  · exact pSet_3 w
  · have e1 : setV s = #[.int .i64 0, .int .i64 0, .int .i64 0, .int .i64 0, .int .i64 0, .int .i64 0, .int .i64 0, .int .i64 0, .int .i64 0] := by unfold setV setN; rw [if_neg h1, if_neg h2, if_neg h3]; rfl
    have e2 : setB s = false := by unfold setB; simp [h1, h2, h3]
    rw [e1, e2]
    exact pSet_0 s w h1 h2 h3


set_option maxRecDepth 100000 in
set_option maxHeartbeats 4000000 in
theorem pSizes_1 (w : World) : Calls Tryd.prog 15 #[.int .i64 1] w fun e w' => e = .returned (.tuple #[.int .i64 1312, .int .i64 2560, .int .i64 2420]) ∧ Below w.heap.size w w' := by
  go_enter Tryd.func15, Tryd.ntmps15
  go_wp2_with (go_at_call 13; refine (pSet_1 _).mono ?_; rintro e w1 ⟨rfl, hb⟩; have HB := Lib.hid hb; clear hb)
  have HBB := Lib.hid (HB.out.alloc HB.out.size (.cells #[.int .i64 4, .int .i64 4, .int .i64 2, .int .i64 39, .int .i64 78, .int .i64 80, .int .i64 131072, .int .i64 95232, .int .i64 32] 30))
  have HS : Hid (∀ k, (w1.alloc (.cells #[.int .i64 4, .int .i64 4, .int .i64 2, .int .i64 39, .int .i64 78, .int .i64 80, .int .i64 131072, .int .i64 95232, .int .i64 32] 30)).cell? ⟨w1.heap.size, k, none⟩ = #[.int .i64 4, .int .i64 4, .int .i64 2, .int .i64 39, .int .i64 78, .int .i64 80, .int .i64 131072, .int .i64 95232, .int .i64 32][k]?) := fun k => cell_of_row _ _ k _ _ _ (heap_alloc_new w1 _)
  generalize w1.heap.size = g at HS ⊢
  generalize w1.alloc _ = W at HBB HS ⊢
  have c0 := HS.out 0
  have c1 := HS.out 1
  have c2 := HS.out 2
  have c5 := HS.out 5
  have c6 := HS.out 6
  have c8 := HS.out 8
  simp only [List.getElem?_toArray, List.getElem?_cons_zero, List.getElem?_cons_succ] at c0 c1 c2 c5 c6 c8
  have k1 : IntKind.i64.wrap 4 = 4 := by decide
  have k2 : IntKind.i64.wrap 262144 = 262144 := by decide
  have k3 : IntKind.i64.wrap 262143 = 262143 := by decide
  clear HB
  go_quiet (exact quiet_eq (sizeW_lit 10 320 _ (by omega) (by omega) (by omega)))
  go_wp2
  have HS2 : Hid (∀ k, (W.drewN nq).cell? ⟨g, k, none⟩ = #[.int .i64 4, .int .i64 4, .int .i64 2, .int .i64 39, .int .i64 78, .int .i64 80, .int .i64 131072, .int .i64 95232, .int .i64 32][k]?) := HS.out
  have HB2 := Lib.hid (below_drewN HBB.out nq)
  clear c0 c1 c2 c5 c6 c8 HS HBB
  generalize W.drewN nq = W2 at HS2 HB2 ⊢
  have c0 := HS2.out 0
  have c1 := HS2.out 1
  have c2 := HS2.out 2
  have c5 := HS2.out 5
  have c6 := HS2.out 6
  have c8 := HS2.out 8
  simp only [List.getElem?_toArray, List.getElem?_cons_zero, List.getElem?_cons_succ] at c0 c1 c2 c5 c6 c8
  go_quiet (first | exact quiet_eq (widthOf_lit 4 3 4 _ (by omega) (by omega) (by decide)) | exact quiet_eq (sizeW_lit 3 96 _ (by omega) (by omega) (by omega)))
  go_wp2
  have HS3 : Hid (∀ k, (W2.drewN nq).cell? ⟨g, k, none⟩ = #[.int .i64 4, .int .i64 4, .int .i64 2, .int .i64 39, .int .i64 78, .int .i64 80, .int .i64 131072, .int .i64 95232, .int .i64 32][k]?) := HS2.out
  have HB3 := Lib.hid (below_drewN HB2.out nq)
  clear c0 c1 c2 c5 c6 c8 HS2 HB2
  generalize W2.drewN nq = W3 at HS3 HB3 ⊢
  have c0 := HS3.out 0
  have c1 := HS3.out 1
  have c2 := HS3.out 2
  have c5 := HS3.out 5
  have c6 := HS3.out 6
  have c8 := HS3.out 8
  simp only [List.getElem?_toArray, List.getElem?_cons_zero, List.getElem?_cons_succ] at c0 c1 c2 c5 c6 c8
  go_quiet (exact quiet_eq (sizeW_lit 13 416 _ (by omega) (by omega) (by omega)))
  go_wp2
  have HS4 : Hid (∀ k, (W3.drewN nq).cell? ⟨g, k, none⟩ = #[.int .i64 4, .int .i64 4, .int .i64 2, .int .i64 39, .int .i64 78, .int .i64 80, .int .i64 131072, .int .i64 95232, .int .i64 32][k]?) := HS3.out
  have HB4 := Lib.hid (below_drewN HB3.out nq)
  clear c0 c1 c2 c5 c6 c8 HS3 HB3
  generalize W3.drewN nq = W4 at HS4 HB4 ⊢
  have c0 := HS4.out 0
  have c1 := HS4.out 1
  have c2 := HS4.out 2
  have c5 := HS4.out 5
  have c6 := HS4.out 6
  have c8 := HS4.out 8
  simp only [List.getElem?_toArray, List.getElem?_cons_zero, List.getElem?_cons_succ] at c0 c1 c2 c5 c6 c8
  go_quiet (first | exact quiet_eq (widthOf_lit 262143 18 262143 _ (by omega) (by omega) (by decide)) | exact quiet_eq (sizeW_lit 18 576 _ (by omega) (by omega) (by omega)))
  go_wp2
  go_ret3
  exact ⟨rfl, below_drewN HB4.out _⟩
set_option maxRecDepth 100000 in
set_option maxHeartbeats 4000000 in
theorem pSizes_2 (w : World) : Calls Tryd.prog 15 #[.int .i64 2] w fun e w' => e = .returned (.tuple #[.int .i64 1952, .int .i64 4032, .int .i64 3309]) ∧ Below w.heap.size w w' := by
  go_enter Tryd.func15, Tryd.ntmps15
  go_wp2_with (go_at_call 13; refine (pSet_2 _).mono ?_; rintro e w1 ⟨rfl, hb⟩; have HB := Lib.hid hb; clear hb)
  have HBB := Lib.hid (HB.out.alloc HB.out.size (.cells #[.int .i64 6, .int .i64 5, .int .i64 4, .int .i64 49, .int .i64 196, .int .i64 55, .int .i64 524288, .int .i64 261888, .int .i64 48] 30))
  have HS : Hid (∀ k, (w1.alloc (.cells #[.int .i64 6, .int .i64 5, .int .i64 4, .int .i64 49, .int .i64 196, .int .i64 55, .int .i64 524288, .int .i64 261888, .int .i64 48] 30)).cell? ⟨w1.heap.size, k, none⟩ = #[.int .i64 6, .int .i64 5, .int .i64 4, .int .i64 49, .int .i64 196, .int .i64 55, .int .i64 524288, .int .i64 261888, .int .i64 48][k]?) := fun k => cell_of_row _ _ k _ _ _ (heap_alloc_new w1 _)
  generalize w1.heap.size = g at HS ⊢
  generalize w1.alloc _ = W at HBB HS ⊢
  have c0 := HS.out 0
  have c1 := HS.out 1
  have c2 := HS.out 2
  have c5 := HS.out 5
  have c6 := HS.out 6
  have c8 := HS.out 8
  simp only [List.getElem?_toArray, List.getElem?_cons_zero, List.getElem?_cons_succ] at c0 c1 c2 c5 c6 c8
  have k1 : IntKind.i64.wrap 8 = 8 := by decide
  have k2 : IntKind.i64.wrap 1048576 = 1048576 := by decide
  have k3 : IntKind.i64.wrap 1048575 = 1048575 := by decide
  clear HB
  go_quiet (exact quiet_eq (sizeW_lit 10 320 _ (by omega) (by omega) (by omega)))
  go_wp2
  have HS2 : Hid (∀ k, (W.drewN nq).cell? ⟨g, k, none⟩ = #[.int .i64 6, .int .i64 5, .int .i64 4, .int .i64 49, .int .i64 196, .int .i64 55, .int .i64 524288, .int .i64 261888, .int .i64 48][k]?) := HS.out
  have HB2 := Lib.hid (below_drewN HBB.out nq)
  clear c0 c1 c2 c5 c6 c8 HS HBB
  generalize W.drewN nq = W2 at HS2 HB2 ⊢
  have c0 := HS2.out 0
  have c1 := HS2.out 1
  have c2 := HS2.out 2
  have c5 := HS2.out 5
  have c6 := HS2.out 6
  have c8 := HS2.out 8
  simp only [List.getElem?_toArray, List.getElem?_cons_zero, List.getElem?_cons_succ] at c0 c1 c2 c5 c6 c8
  go_quiet (first | exact quiet_eq (widthOf_lit 8 4 8 _ (by omega) (by omega) (by decide)) | exact quiet_eq (sizeW_lit 4 128 _ (by omega) (by omega) (by omega)))
  go_wp2
  have HS3 : Hid (∀ k, (W2.drewN nq).cell? ⟨g, k, none⟩ = #[.int .i64 6, .int .i64 5, .int .i64 4, .int .i64 49, .int .i64 196, .int .i64 55, .int .i64 524288, .int .i64 261888, .int .i64 48][k]?) := HS2.out
  have HB3 := Lib.hid (below_drewN HB2.out nq)
  clear c0 c1 c2 c5 c6 c8 HS2 HB2
  generalize W2.drewN nq = W3 at HS3 HB3 ⊢
  have c0 := HS3.out 0
  have c1 := HS3.out 1
  have c2 := HS3.out 2
  have c5 := HS3.out 5
  have c6 := HS3.out 6
  have c8 := HS3.out 8
  simp only [List.getElem?_toArray, List.getElem?_cons_zero, List.getElem?_cons_succ] at c0 c1 c2 c5 c6 c8
  go_quiet (exact quiet_eq (sizeW_lit 13 416 _ (by omega) (by omega) (by omega)))
  go_wp2
  have HS4 : Hid (∀ k, (W3.drewN nq).cell? ⟨g, k, none⟩ = #[.int .i64 6, .int .i64 5, .int .i64 4, .int .i64 49, .int .i64 196, .int .i64 55, .int .i64 524288, .int .i64 261888, .int .i64 48][k]?) := HS3.out
  have HB4 := Lib.hid (below_drewN HB3.out nq)
  clear c0 c1 c2 c5 c6 c8 HS3 HB3
  generalize W3.drewN nq = W4 at HS4 HB4 ⊢
  have c0 := HS4.out 0
  have c1 := HS4.out 1
  have c2 := HS4.out 2
  have c5 := HS4.out 5
  have c6 := HS4.out 6
  have c8 := HS4.out 8
  simp only [List.getElem?_toArray, List.getElem?_cons_zero, List.getElem?_cons_succ] at c0 c1 c2 c5 c6 c8
  go_quiet (first | exact quiet_eq (widthOf_lit 1048575 20 1048575 _ (by omega) (by omega) (by decide)) | exact quiet_eq (sizeW_lit 20 640 _ (by omega) (by omega) (by omega)))
  go_wp2
  go_ret3
  exact ⟨rfl, below_drewN HB4.out _⟩
set_option maxRecDepth 100000 in
set_option maxHeartbeats 4000000 in
theorem pSizes_3 (w : World) : Calls Tryd.prog 15 #[.int .i64 3] w fun e w' => e = .returned (.tuple #[.int .i64 2592, .int .i64 4896, .int .i64 4627]) ∧ Below w.heap.size w w' := by
  go_enter Tryd.func15, Tryd.ntmps15
  go_wp2_with (go_at_call 13; refine (pSet_3 _).mono ?_; rintro e w1 ⟨rfl, hb⟩; have HB := Lib.hid hb; clear hb)
  have HBB := Lib.hid (HB.out.alloc HB.out.size (.cells #[.int .i64 8, .int .i64 7, .int .i64 2, .int .i64 60, .int .i64 120, .int .i64 75, .int .i64 524288, .int .i64 261888, .int .i64 64] 30))
  have HS : Hid (∀ k, (w1.alloc (.cells #[.int .i64 8, .int .i64 7, .int .i64 2, .int .i64 60, .int .i64 120, .int .i64 75, .int .i64 524288, .int .i64 261888, .int .i64 64] 30)).cell? ⟨w1.heap.size, k, none⟩ = #[.int .i64 8, .int .i64 7, .int .i64 2, .int .i64 60, .int .i64 120, .int .i64 75, .int .i64 524288, .int .i64 261888, .int .i64 64][k]?) := fun k => cell_of_row _ _ k _ _ _ (heap_alloc_new w1 _)
  generalize w1.heap.size = g at HS ⊢
  generalize w1.alloc _ = W at HBB HS ⊢
  have c0 := HS.out 0
  have c1 := HS.out 1
  have c2 := HS.out 2
  have c5 := HS.out 5
  have c6 := HS.out 6
  have c8 := HS.out 8
  simp only [List.getElem?_toArray, List.getElem?_cons_zero, List.getElem?_cons_succ] at c0 c1 c2 c5 c6 c8
  have k1 : IntKind.i64.wrap 4 = 4 := by decide
  have k2 : IntKind.i64.wrap 1048576 = 1048576 := by decide
  have k3 : IntKind.i64.wrap 1048575 = 1048575 := by decide
  clear HB
  go_quiet (exact quiet_eq (sizeW_lit 10 320 _ (by omega) (by omega) (by omega)))
  go_wp2
  have HS2 : Hid (∀ k, (W.drewN nq).cell? ⟨g, k, none⟩ = #[.int .i64 8, .int .i64 7, .int .i64 2, .int .i64 60, .int .i64 120, .int .i64 75, .int .i64 524288, .int .i64 261888, .int .i64 64][k]?) := HS.out
  have HB2 := Lib.hid (below_drewN HBB.out nq)
  clear c0 c1 c2 c5 c6 c8 HS HBB
  generalize W.drewN nq = W2 at HS2 HB2 ⊢
  have c0 := HS2.out 0
  have c1 := HS2.out 1
  have c2 := HS2.out 2
  have c5 := HS2.out 5
  have c6 := HS2.out 6
  have c8 := HS2.out 8
  simp only [List.getElem?_toArray, List.getElem?_cons_zero, List.getElem?_cons_succ] at c0 c1 c2 c5 c6 c8
  go_quiet (first | exact quiet_eq (widthOf_lit 4 3 4 _ (by omega) (by omega) (by decide)) | exact quiet_eq (sizeW_lit 3 96 _ (by omega) (by omega) (by omega)))
  go_wp2
  have HS3 : Hid (∀ k, (W2.drewN nq).cell? ⟨g, k, none⟩ = #[.int .i64 8, .int .i64 7, .int .i64 2, .int .i64 60, .int .i64 120, .int .i64 75, .int .i64 524288, .int .i64 261888, .int .i64 64][k]?) := HS2.out
  have HB3 := Lib.hid (below_drewN HB2.out nq)
  clear c0 c1 c2 c5 c6 c8 HS2 HB2
  generalize W2.drewN nq = W3 at HS3 HB3 ⊢
  have c0 := HS3.out 0
  have c1 := HS3.out 1
  have c2 := HS3.out 2
  have c5 := HS3.out 5
  have c6 := HS3.out 6
  have c8 := HS3.out 8
  simp only [List.getElem?_toArray, List.getElem?_cons_zero, List.getElem?_cons_succ] at c0 c1 c2 c5 c6 c8
  go_quiet (exact quiet_eq (sizeW_lit 13 416 _ (by omega) (by omega) (by omega)))
  go_wp2
  have HS4 : Hid (∀ k, (W3.drewN nq).cell? ⟨g, k, none⟩ = #[.int .i64 8, .int .i64 7, .int .i64 2, .int .i64 60, .int .i64 120, .int .i64 75, .int .i64 524288, .int .i64 261888, .int .i64 64][k]?) := HS3.out
  have HB4 := Lib.hid (below_drewN HB3.out nq)
  clear c0 c1 c2 c5 c6 c8 HS3 HB3
  generalize W3.drewN nq = W4 at HS4 HB4 ⊢
  have c0 := HS4.out 0
  have c1 := HS4.out 1
  have c2 := HS4.out 2
  have c5 := HS4.out 5
  have c6 := HS4.out 6
  have c8 := HS4.out 8
  simp only [List.getElem?_toArray, List.getElem?_cons_zero, List.getElem?_cons_succ] at c0 c1 c2 c5 c6 c8
  go_quiet (first | exact quiet_eq (widthOf_lit 1048575 20 1048575 _ (by omega) (by omega) (by decide)) | exact quiet_eq (sizeW_lit 20 640 _ (by omega) (by omega) (by omega)))
  go_wp2
  go_ret3
  exact ⟨rfl, below_drewN HB4.out _⟩
set_option maxRecDepth 100000 in
set_option maxHeartbeats 2000000 in
theorem pSizes_0 (s : Int) (w : World) (h1 : s ≠ 1) (h2 : s ≠ 2) (h3 : s ≠ 3) : Calls Tryd.prog 15 #[.int .i64 s] w fun e w' => e = .returned (.tuple #[.int .i64 0, .int .i64 0, .int .i64 0]) ∧ Below w.heap.size w w' := by
  go_enter Tryd.func15, Tryd.ntmps15
  go_wp2_with (go_at_call 13; refine (pSet_0 s _ h1 h2 h3).mono ?_; rintro e w1 ⟨rfl, hb⟩; have HB := Lib.hid hb; clear hb)
  go_ret3
  exact ⟨rfl, HB.out.alloc HB.out.size _⟩
theorem pSizes_any (s : Int) (w : World) : Calls Tryd.prog 15 #[.int .i64 s] w fun e w' => e = .returned (.tuple #[.int .i64 (sizeN s).1, .int .i64 (sizeN s).2.1, .int .i64 (sizeN s).2.2]) ∧ Below w.heap.size w w' := by
  rcases set_cases s with rfl | rfl | rfl | ⟨h1, h2, h3⟩
  · exact pSizes_1 w
  · exact pSizes_2 w
  · exact pSizes_3 w
  · have e1 : sizeN s = (0, 0, 0) := by unfold sizeN; rw [if_neg h1, if_neg h2, if_neg h3]
    rw [e1]
    exact pSizes_0 s w h1 h2 h3
end Go.Proofs.YtoigpehpgpogfaaDoor
