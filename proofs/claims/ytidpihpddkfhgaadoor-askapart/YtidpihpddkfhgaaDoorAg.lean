/- Contracts: the sizes of set 1, by the landed code and by the document's own. -/
import Derived.Test.YtidpihpddkfhgaaDoorAf
import Derived.Laws.ResultCell
namespace Go.Proofs.YtidpihpddkfhgaaDoor
open Go.RowKit Slices Go.Proofs.YtidpihpddkfhgaaDoor.Bit

theorem ret_int {k : IntKind} {a b : Int} (h : a = b) : Ending.returned (.int k a) = .returned (.int k b) := by rw [h]
def blen (n : Nat) : Nat := if n = 0 then 0 else Nat.log2 n + 1
theorem blen_zero : blen 0 = 0 := rfl
theorem blen_step {n : Nat} (h : 0 < n) : blen n = blen (n / 2) + 1 := by
  unfold blen
  rw [if_neg (by omega)]
  by_cases h2 : 2 ≤ n
  · rw [if_neg (by omega), Nat.log2_def, if_pos h2]
  · have e : n = 1 := by omega
    subst e
    decide
theorem blen_lt : ∀ n : Nat, n < 2 ^ blen n := by
  intro n
  by_cases h : n = 0
  · subst h; decide
  · unfold blen
    rw [if_neg h]
    exact Nat.lt_log2_self
theorem blen_le : ∀ (k n : Nat), n < 2 ^ k → blen n ≤ k := by
  intro k
  induction k with
  | zero => intro n h; have : n = 0 := by simpa using h
            subst this; decide
  | succ k ih =>
    intro n h
    by_cases h0 : n = 0
    · subst h0; rw [blen_zero]; omega
    · rw [blen_step (by omega)]
      have := ih (n / 2) (by rw [Nat.pow_succ] at h; omega)
      omega
theorem blen_pos {n : Nat} (h : 0 < n) : 1 ≤ blen n := by rw [blen_step h]; omega
theorem sizeW_any (d : Nat) (w : World) (h : d ≤ 1000) :
    Calls Tryd.prog 54 #[.int .i64 d] w fun e w' => e = .returned (.int .i64 (32 * d : Nat)) ∧ w = w' := by
  go_enter Tryd.func54, Tryd.ntmps54
  go_wp2
  go_ret
  exact ⟨ret_int (by omega), rfl⟩
set_option maxHeartbeats 400000 in
theorem widthOf_any (n : Nat) (w : World) (n1 : n ≤ 2097152) :
    Calls Tryd.prog 55 #[.int .i64 n] w fun e w' => e = .returned (.int .i64 (blen n)) ∧ w = w' := by
  obtain ⟨N, hN⟩ : ∃ N, N = blen n := ⟨_, rfl⟩
  have hle : N ≤ 22 := by rw [hN]; exact blen_le 22 _ (by omega)
  have hd : Hid (0 + blen n = N) := by show 0 + blen n = N; rw [hN]; omega
  rw [← hN]
  clear hN
  go_enter Tryd.func55, Tryd.ntmps55
  go_wp2
  go_loop [0, 3] (fun i d => ∃ k m : Nat, k ≤ 22 ∧ m ≤ 2097152 ∧ d = .int .i64 k ∧ i = .int .i64 m ∧ k + blen m = N) (fun i _ => (intOf i).toNat)
  case atStart => exact ⟨0, n, by omega, n1, rfl, rfl, hd.out⟩
  case round =>
    obtain ⟨k, m, hk, hm, rfl, rfl, he⟩ := hrel
    have HE := Lib.hid he
    by_cases h0 : 0 < m
    · have hs := blen_step h0
      have hk2 : k + 1 ≤ 22 := by omega
      have HS := Lib.hid hs
      clear hs he
      go_wp2
      go_round
      case rel => exact ⟨k + 1, m / 2, by omega, by omega, by go_num, by go_num, by have := HE.out; have := HS.out; omega⟩
      case measure => simp [intOf]; omega
    · have e : m = 0 := by omega
      subst e
      clear he
      go_wp2
      go_ret
      exact ⟨ret_int (by have := HE.out; rw [blen_zero] at this; omega), rfl⟩
theorem sizeW_lit (d v : Int) (w : World) (h0 : 0 ≤ d) (h1 : d ≤ 1000) (e : 32 * d = v) :
    Calls Tryd.prog 54 #[.int .i64 d] w fun e w' => e = .returned (.int .i64 v) ∧ w = w' := by
  obtain ⟨n, rfl⟩ := Int.eq_ofNat_of_zero_le h0
  subst e
  exact (sizeW_any n w (by omega)).mono fun e w' h => ⟨by rw [h.1]; exact ret_int (by omega), h.2⟩
theorem widthOf_lit (x v : Int) (n : Nat) (w : World) (hx : x = n) (hn : n ≤ 2097152) (e : (blen n : Int) = v) :
    Calls Tryd.prog 55 #[.int .i64 x] w fun e w' => e = .returned (.int .i64 v) ∧ w = w' := by
  subst hx
  subst e
  exact widthOf_any n w hn
set_option maxRecDepth 100000 in
set_option maxHeartbeats 2000000 in
theorem pSet_1 (w : World) : Calls Tryd.prog 53 #[.int .i64 1] w fun e w' => e = .returned (.tuple #[.agg #[.int .i64 4, .int .i64 4, .int .i64 2, .int .i64 39, .int .i64 78, .int .i64 80, .int .i64 131072, .int .i64 95232, .int .i64 32], .bool true]) ∧ Below w.heap.size w w' := by
  go_enter Tryd.func53, Tryd.ntmps53
  go_wp2
  refine bodyPost_ret (v := .tuple #[.agg #[.int .i64 4, .int .i64 4, .int .i64 2, .int .i64 39, .int .i64 78, .int .i64 80, .int .i64 131072, .int .i64 95232, .int .i64 32], .bool true]) ?_ rfl ⟨rfl, (Below.refl _ _).alloc (Nat.le_refl _) _⟩
  rw [results_cell_tmp rfl]
  go_simp
set_option maxRecDepth 100000 in
set_option maxHeartbeats 4000000 in
theorem laySizes_1 (w : World) : Calls Tryd.prog 35 #[.int .i64 1] w fun e w' => e = .returned (.tuple #[.int .i64 1312, .int .i64 2560, .int .i64 2420]) ∧ Below w.heap.size w w' := by
  go_enter Tryd.func35, Tryd.ntmps35
  go_wp2_with (go_at_call 53; refine (pSet_1 _).mono ?_; rintro e w1 ⟨rfl, hb⟩; have HB := Lib.hid hb; clear hb)
  have HBB := Lib.hid (HB.out.alloc HB.out.size (.cells #[.int .i64 4, .int .i64 4, .int .i64 2, .int .i64 39, .int .i64 78, .int .i64 80, .int .i64 131072, .int .i64 95232, .int .i64 32] 95))
  have HS : Hid (∀ k, (w1.alloc (.cells #[.int .i64 4, .int .i64 4, .int .i64 2, .int .i64 39, .int .i64 78, .int .i64 80, .int .i64 131072, .int .i64 95232, .int .i64 32] 95)).cell? ⟨w1.heap.size, k, none⟩ = #[.int .i64 4, .int .i64 4, .int .i64 2, .int .i64 39, .int .i64 78, .int .i64 80, .int .i64 131072, .int .i64 95232, .int .i64 32][k]?) := fun k => cell_of_row _ _ k _ _ _ (heap_alloc_new w1 _)
  generalize w1.heap.size = g at HS ⊢
  generalize w1.alloc _ = W at HBB HS ⊢
  have c0 := HS.out 0
  have c1 := HS.out 1
  have c2 := HS.out 2
  have c5 := HS.out 5
  have c6 := HS.out 6
  have c8 := HS.out 8
  simp only [List.getElem?_toArray, List.getElem?_cons_zero, List.getElem?_cons_succ] at c0 c1 c2 c5 c6 c8
  have k1 : IntKind.i64.wrap 4 = 4 := by decide
  have k2 : IntKind.i64.wrap 262144 = 262144 := by decide
  have k3 : IntKind.i64.wrap 262143 = 262143 := by decide
  clear HB
  go_quiet (exact quiet_eq (sizeW_lit 10 320 _ (by omega) (by omega) (by omega)))
  go_wp2
  have HS2 : Hid (∀ k, (W.drewN nq).cell? ⟨g, k, none⟩ = #[.int .i64 4, .int .i64 4, .int .i64 2, .int .i64 39, .int .i64 78, .int .i64 80, .int .i64 131072, .int .i64 95232, .int .i64 32][k]?) := HS.out
  have HB2 := Lib.hid (below_drewN HBB.out nq)
  clear c0 c1 c2 c5 c6 c8 HS HBB
  generalize W.drewN nq = W2 at HS2 HB2 ⊢
  have c0 := HS2.out 0
  have c1 := HS2.out 1
  have c2 := HS2.out 2
  have c5 := HS2.out 5
  have c6 := HS2.out 6
  have c8 := HS2.out 8
  simp only [List.getElem?_toArray, List.getElem?_cons_zero, List.getElem?_cons_succ] at c0 c1 c2 c5 c6 c8
  go_quiet (first | exact quiet_eq (widthOf_lit 4 3 4 _ (by omega) (by omega) (by decide)) | exact quiet_eq (sizeW_lit 3 96 _ (by omega) (by omega) (by omega)))
  go_wp2
  have HS3 : Hid (∀ k, (W2.drewN nq).cell? ⟨g, k, none⟩ = #[.int .i64 4, .int .i64 4, .int .i64 2, .int .i64 39, .int .i64 78, .int .i64 80, .int .i64 131072, .int .i64 95232, .int .i64 32][k]?) := HS2.out
  have HB3 := Lib.hid (below_drewN HB2.out nq)
  clear c0 c1 c2 c5 c6 c8 HS2 HB2
  generalize W2.drewN nq = W3 at HS3 HB3 ⊢
  have c0 := HS3.out 0
  have c1 := HS3.out 1
  have c2 := HS3.out 2
  have c5 := HS3.out 5
  have c6 := HS3.out 6
  have c8 := HS3.out 8
  simp only [List.getElem?_toArray, List.getElem?_cons_zero, List.getElem?_cons_succ] at c0 c1 c2 c5 c6 c8
  go_quiet (exact quiet_eq (sizeW_lit 13 416 _ (by omega) (by omega) (by omega)))
  go_wp2
  have HS4 : Hid (∀ k, (W3.drewN nq).cell? ⟨g, k, none⟩ = #[.int .i64 4, .int .i64 4, .int .i64 2, .int .i64 39, .int .i64 78, .int .i64 80, .int .i64 131072, .int .i64 95232, .int .i64 32][k]?) := HS3.out
  have HB4 := Lib.hid (below_drewN HB3.out nq)
  clear c0 c1 c2 c5 c6 c8 HS3 HB3
  generalize W3.drewN nq = W4 at HS4 HB4 ⊢
  have c0 := HS4.out 0
  have c1 := HS4.out 1
  have c2 := HS4.out 2
  have c5 := HS4.out 5
  have c6 := HS4.out 6
  have c8 := HS4.out 8
  simp only [List.getElem?_toArray, List.getElem?_cons_zero, List.getElem?_cons_succ] at c0 c1 c2 c5 c6 c8
  go_quiet (first | exact quiet_eq (widthOf_lit 262143 18 262143 _ (by omega) (by omega) (by decide)) | exact quiet_eq (sizeW_lit 18 576 _ (by omega) (by omega) (by omega)))
  go_wp2
  go_ret3
  exact ⟨rfl, below_drewN HB4.out _⟩
set_option maxRecDepth 100000 in
set_option maxHeartbeats 2000000 in
theorem refSet_1 (w : World) : Calls Tryd.prog 58 #[.int .i64 1] w fun e w' => e = .returned (.tuple #[.agg #[.int .i64 4, .int .i64 4, .int .i64 2, .int .i64 39, .int .i64 78, .int .i64 80, .int .i64 131072, .int .i64 95232, .int .i64 32], .bool true]) ∧ Below w.heap.size w w' := by
  go_enter Tryd.func58, Tryd.ntmps58
  go_wp2
  refine bodyPost_ret (v := .tuple #[.agg #[.int .i64 4, .int .i64 4, .int .i64 2, .int .i64 39, .int .i64 78, .int .i64 80, .int .i64 131072, .int .i64 95232, .int .i64 32], .bool true]) ?_ rfl ⟨rfl, (Below.refl _ _).alloc (Nat.le_refl _) _⟩
  rw [results_cell_tmp rfl]
  go_simp
theorem struct_cell {w1 w2 : World} {cs : Array Value} {t : TypeId} (hb : Below (w1.alloc (.cells cs t)).heap.size (w1.alloc (.cells cs t)) w2) (k : Nat) : w2.cell? ⟨w1.heap.size, k, none⟩ = cs[k]? := by
  have h : w2.heap[w1.heap.size]? = some (.cells cs t (0, 0)) := (hb.block _ (by simp)).trans (heap_alloc_new w1 _)
  exact cell_of_row _ _ k _ _ _ h
theorem struct_below {w w1 w2 : World} {o : Obj} (h : Below w.heap.size w w1) (hb : Below (w1.alloc o).heap.size (w1.alloc o) w2) : Below w.heap.size w w2 := (h.alloc h.size _).trans (hb.mono (by have := h.size; simp; omega))
set_option maxRecDepth 100000 in
set_option maxHeartbeats 2000000 in
theorem refWide_1 (w : World) : Calls Tryd.prog 59 #[.agg #[.int .i64 4, .int .i64 4, .int .i64 2, .int .i64 39, .int .i64 78, .int .i64 80, .int .i64 131072, .int .i64 95232, .int .i64 32]] w fun e w' => e = .returned (.tuple #[.int .i64 18, .int .i64 3]) ∧ Below w.heap.size w w' := by
  go_enter Tryd.func59, Tryd.ntmps59
  go_wp2
  go_ret2
  exact ⟨rfl, (Below.refl _ _).alloc (Nat.le_refl _) _⟩
set_option maxRecDepth 100000 in
set_option maxHeartbeats 4000000 in
theorem refSizes_1 (w : World) : Calls Tryd.prog 37 #[.int .i64 1] w fun e w' => e = .returned (.tuple #[.int .i64 1312, .int .i64 2560, .int .i64 2420]) ∧ Below w.heap.size w w' := by
  go_enter Tryd.func37, Tryd.ntmps37
  go_wp2_with (first
    | (go_at_call 58; refine (refSet_1 _).mono ?_; rintro e w1 ⟨rfl, hb⟩; have HB := Lib.hid hb; clear hb)
    | (go_at_call 59; refine (refWide_1 _).mono ?_; rintro e w2 ⟨rfl, hb⟩; have HB2 := Lib.hid hb; clear hb))
  have c0 := struct_cell HB2.out 0
  have c1 := struct_cell HB2.out 1
  have c5 := struct_cell HB2.out 5
  have c8 := struct_cell HB2.out 8
  simp only [List.getElem?_toArray, List.getElem?_cons_zero, List.getElem?_cons_succ] at c0 c1 c5 c8
  have HBB := Lib.hid (struct_below HB.out HB2.out)
  clear HB HB2
  go_quiet (fail)
  go_wp2
  go_ret3
  exact ⟨rfl, below_drewN HBB.out _⟩
theorem pSizes_1 (w : World) : Calls Tryd.prog 16 #[.int .i64 1] w fun e w' => e = .returned (.tuple #[.int .i64 1312, .int .i64 2560, .int .i64 2420]) ∧ Below w.heap.size w w' := by
  go_enter Tryd.func16, Tryd.ntmps16
  go_wp2_with (go_at_call 35; refine (laySizes_1 _).mono ?_; rintro e w1 ⟨rfl, hb⟩; have HB := Lib.hid hb; clear hb)
  go_ret3
  exact ⟨rfl, HB.out⟩
end Go.Proofs.YtidpihpddkfhgaaDoor
