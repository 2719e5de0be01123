/- Contract: the program's roots, all at once. -/
import Derived.Test.YtneopnlklhcopaaPa
import Derived.Deep.WholeRow
namespace Go.Proofs.Ytneopnlklhcopaa
open Go.RowKit Slices Go.Proofs.Ytneopnlklhcopaa.Ring

theorem Try.info41 : (Try.prog.info? 41).map (fun i => (i.zero, i.size)) = some (some (.agg (Array.replicate 256 (.int .i64 0))), 256) := by kernel_rfl

/-- the first K roots, zeros behind them -/
def rootsTo (K : Nat) : Array Value := Array.ofFn (n := 256) fun j => .int .i64 (if j.val < K then rRoot (j.val : Nat) else 0)
theorem rootsTo_size (K : Nat) : (rootsTo K).size = 256 := Array.size_ofFn
theorem rootsTo_at (K : Nat) {j : Nat} (h : j < 256) : (rootsTo K)[j]? = some (.int .i64 (if j < K then rRoot (j : Nat) else 0)) := by
  unfold rootsTo
  rw [Array.getElem?_ofFn, dif_pos h]
theorem rootsTo_one (K : Nat) : ((rootsTo K).all fun x => x.oneCell') = true := by
  rw [Array.all_eq_true_iff_forall_mem]
  intro v hv
  unfold rootsTo at hv
  rw [Array.mem_ofFn] at hv
  obtain ⟨i, rfl⟩ := hv
  rfl
theorem rootsTo_next {K : Nat} (h : K < 256) {v : Int} (hv : v = rRoot (K : Nat)) : (rootsTo K).setIfInBounds K (.int .i64 v) = rootsTo (K + 1) := by
  apply Array.ext_getElem?
  intro j
  by_cases hj : j < 256
  · rw [rootsTo_at (K + 1) hj, Array.getElem?_setIfInBounds]
    by_cases e : K = j
    · subst e
      rw [if_pos rfl, if_pos (by rw [rootsTo_size]; exact h), if_pos (by omega), hv]
    · rw [if_neg e, rootsTo_at K hj]
      by_cases d : j < K
      · rw [if_pos d, if_pos (by omega)]
      · rw [if_neg d, if_neg (by omega)]
  · rw [Array.getElem?_eq_none (by rw [Array.size_setIfInBounds, rootsTo_size]; omega), Array.getElem?_eq_none (by rw [rootsTo_size]; omega)]
theorem root_sum_all : (List.range 8).all (fun m => (List.range (2 ^ m)).all fun i => rOf (rRoot ((2 ^ m : Nat) : Int) * rRoot ((i : Nat) : Int)) == rRoot ((2 ^ m + i : Nat) : Int)) = true := by decide +kernel
theorem root_sum {m i : Nat} (hm : m < 8) (hi : i < 2 ^ m) : rOf (rRoot ((2 ^ m : Nat) : Int) * rRoot ((i : Nat) : Int)) = rRoot ((2 ^ m + i : Nat) : Int) := by
  have := List.all_eq_true.mp root_sum_all m (List.mem_range.mpr hm)
  have := List.all_eq_true.mp this i (List.mem_range.mpr hi)
  simpa using this
theorem root_zero : rRoot 0 = 1 := by decide +kernel
theorem rootsTo_zero : rootsTo 0 = Array.replicate 256 (.int .i64 0) := by
  apply Array.ext_getElem?
  intro j
  by_cases hj : j < 256
  · rw [rootsTo_at 0 hj, if_neg (by omega), Array.getElem?_replicate, if_pos hj]
  · rw [Array.getElem?_eq_none (by rw [rootsTo_size]; omega), Array.getElem?_eq_none (by rw [Array.size_replicate]; omega)]
theorem rootsTo_start : Try.prog.built 41 [(0, .int .i64 1)] = some (rootsTo 1) := by
  rw [← rootsTo_next (K := 0) (by omega) root_zero.symm, rootsTo_zero]
  kernel_rfl

/-- where the roots are made: behind what was there lies the answer's variable, behind it the roots -/
def RootRow (w : World) (K : Nat) (wr : World) : Prop :=
  wr.heap.size = w.heap.size + 2 ∧ wr.heap[w.heap.size]? = some (.cells (Array.replicate 256 (.int .i64 0)) 41 (0, 0)) ∧ wr.heap[w.heap.size + 1]? = some (.cells (rootsTo K) 41 (0, 0)) ∧ Below w.heap.size w wr
theorem RootRow.cell {w wr : World} {K j : Nat} (h : RootRow w K wr) (hj : j < 256) : wr.cell? ⟨w.heap.size + 1, j, none⟩ = some (.int .i64 (if j < K then rRoot (j : Nat) else 0)) := by
  rw [cell_of_row _ _ j _ _ _ h.2.2.1, rootsTo_at K hj]
theorem RootRow.frozen {w wr : World} {K : Nat} (h : RootRow w K wr) (j : Nat) : wr.frozen? ⟨w.heap.size + 1, j, none⟩ = false := frozen_of_row _ _ j _ _ h.2.2.1
theorem RootRow.put {w wr : World} {K : Nat} (h : RootRow w K wr) (hK : K < 256) {v : Int} (hv : v = rRoot (K : Nat)) : RootRow w (K + 1) (wr.setCell ⟨w.heap.size + 1, K, none⟩ (.int .i64 v)) := by
  obtain ⟨h1, h2, h3, h4⟩ := h
  refine ⟨by rw [World.size_setCell]; exact h1, ?_, ?_, h4.setCell (by show w.heap.size ≤ w.heap.size + 1; omega) _⟩
  · rw [heap_setCell_other _ _ _ _ (by show w.heap.size ≠ w.heap.size + 1; omega)]; exact h2
  · rw [heap_setCell_same _ _ _ _ _ _ h3, rootsTo_next hK hv]

theorem below_setRow {B g : Nat} {a b : World} (h : Below B a b) (hg : B ≤ g) (cs : Array Value) : Below B a (b.setRow g cs) :=
  ⟨h.os, h.tape, h.output, by rw [size_setRow]; exact h.size, fun k hk => (setRow_other _ _ _ _ (by omega)).trans (h.block k hk)⟩
theorem rootRow_start (w : World) : RootRow w 1 (((w.alloc (.cells (Array.replicate 256 (.int .i64 0)) 41)).alloc (.cells (Array.replicate 256 (.int .i64 0)) 41)).setRow (w.heap.size + 1) (rootsTo 1)) := by
  have b1 : Below w.heap.size w (w.alloc (.cells (Array.replicate 256 (.int .i64 0)) 41)) := (Below.refl _ _).alloc (Nat.le_refl _) _
  have b2 : Below w.heap.size w ((w.alloc (.cells (Array.replicate 256 (.int .i64 0)) 41)).alloc (.cells (Array.replicate 256 (.int .i64 0)) 41)) := b1.alloc b1.size _
  refine ⟨by rw [size_setRow]; simp, ?_, setRow_heap _ _ _ _ _ _ (heap_alloc2_new w _ _), ?_⟩
  · rw [setRow_other _ _ _ _ (by omega)]; exact heap_alloc2_old w _ _
  · exact below_setRow b2 (by omega) _

theorem pow_fits {m : Nat} (h : m < 8) : 2 ^ m ≤ 128 := by
  have : m = 0 ∨ m = 1 ∨ m = 2 ∨ m = 3 ∨ m = 4 ∨ m = 5 ∨ m = 6 ∨ m = 7 := by omega
  rcases this with rfl | rfl | rfl | rfl | rfl | rfl | rfl | rfl <;> decide
theorem root_as {i z : Int} (hz : z = rRoot i) (w : World) :
    Calls Try.prog 26 #[.int .i64 i] w fun e w' => e = .returned (.int .i64 z) ∧ w = w' := by
  rw [hz]; exact root_any i w

set_option maxRecDepth 100000 in
set_option maxHeartbeats 2000000 in
theorem roots_any (w : World) :
    Calls Try.prog 41 #[] w fun e w' => e = .returned (.agg (rootsTo 256)) ∧ Below w.heap.size w w' := by
  obtain ⟨hz, hi⟩ := zero_of_info Try.info41
  have HI := Lib.hid hi
  have hst : (Array.replicate 256 (Value.int .i64 0)).setIfInBounds 0 (.int .i64 1) = rootsTo 1 := by rw [← rootsTo_next (K := 0) (by omega) root_zero.symm, rootsTo_zero]
  clear hi
  go_enter Try.func41, Try.ntmps41
  go_wp2_with (refine wpList_store_row rfl 41 _ _ rfl (w.heap.size + 1) (rootsTo 1) rfl rfl 41 (Array.replicate 256 (.int .i64 0)) (heap_alloc2_new w _ _) (by rw [rootsTo_size]; exact HI.out) (by rw [rootsTo_size, Array.size_replicate]) (rootsTo_one 1) ?_; have hr := Lib.hid (rootRow_start w); generalize World.setRow _ _ _ = w1 at hr ⊢)
  clear hst hz
  go_loopw [2] (fun n wr => ∃ m L : Nat, m ≤ 8 ∧ L = 2 ^ m ∧ L ≤ 256 ∧ 1 ≤ L ∧ n = .int .i64 L ∧ RootRow w L wr) (fun n _ => 257 - (intOf n).toNat)
  case atStart => exact ⟨0, 1, by omega, rfl, by omega, by omega, rfl, hr.out⟩
  case round =>
    obtain ⟨m, L, hm, hL, l1, l0, rfl, hw⟩ := hrel
    have HL := Lib.hid hL
    have HW := Lib.hid hw
    clear hr hL hw
    by_cases hlt : L < 256
    · have bL : decide ((L : Int) < 256) = true := by rw [decide_eq_true_iff]; omega
      have hm8 : m < 8 := by
        rcases Nat.lt_or_ge m 8 with h | h
        · exact h
        · have e : m = 8 := by omega
          rw [HL.out, e] at hlt
          omega
      have l2 : L ≤ 128 := by rw [HL.out]; exact pow_fits hm8
      obtain ⟨s0, s1⟩ := rRoot_ok (L : Int)
      obtain ⟨z, hz⟩ : ∃ z, z = rRoot (L : Int) := ⟨_, rfl⟩
      have HZ := Lib.hid hz
      rw [← hz] at s0 s1
      clear hz
      go_wp2_with (go_at_call 26; refine (root_as HZ.out _).mono ?_; rintro e w' ⟨rfl, rfl⟩)
      go_loopw [13] (fun i wj => ∃ k : Nat, k ≤ L ∧ i = .int .i64 k ∧ RootRow w (L + k) wj) (fun i _ => L - (intOf i).toNat)
      case atStart => exact ⟨0, by omega, rfl, HW.out⟩
      case round =>
        obtain ⟨k, hk, rfl, hw⟩ := hrel
        have HK := Lib.hid hw
        clear hw HW
        by_cases hkl : k < L
        · have bk : decide ((k : Int) < (L : Int)) = true := by rw [decide_eq_true_iff]; omega
          have cX := HK.out.cell (j := k) (by omega)
          rw [if_pos (by omega)] at cX
          have cY := HK.out.cell (j := L + k) (by omega)
          rw [if_neg (Nat.lt_irrefl _)] at cY
          have fY := HK.out.frozen (L + k)
          obtain ⟨x0, x1⟩ := rRoot_ok (k : Int)
          have hv : rOf (z * rRoot (k : Int)) = rRoot ((L + k : Nat) : Int) := by
            rw [HZ.out, HL.out]
            exact root_sum hm8 (by rw [← HL.out]; exact hkl)
          have HNX := Lib.hid (HK.out.put (by omega) hv)
          clear hv HK
          generalize rRoot (k : Int) = X at cX x0 x1 HNX
          obtain ⟨q0, q1⟩ := prod_bd z X s0 s1 x0 x1
          go_wp2_with (go_at_call 37; refine (of_any _ _).mono ?_; rintro e w' ⟨rfl, rfl⟩)
          go_roundw
          case rel => exact ⟨k + 1, by omega, by go_num, HNX.out⟩
          case measure => simp [intOf]; omega
        · have bk : decide ((k : Int) < (L : Int)) = false := by rw [decide_eq_false_iff_not]; omega
          have e : k = L := by omega
          subst e
          go_wp2
          go_roundw
          case rel => exact ⟨m + 1, 2 * k, by omega, by rw [Nat.pow_succ, ← HL.out]; omega, by omega, by omega, by go_num, by rw [Nat.two_mul]; exact HK.out⟩
          case measure => simp [intOf]; omega
    · have bL : decide ((L : Int) < 256) = false := by rw [decide_eq_false_iff_not]; omega
      have e : L = 256 := by omega
      have H2 := Lib.hid HW.out.2.1
      have H3 := Lib.hid HW.out.2.2.1
      have HB := Lib.hid HW.out.2.2.2
      subst e
      go_wp2_with (first
        | (refine wpList_load_row rfl 41 _ rfl (w.heap.size + 1) rfl 41 (rootsTo 256) (0, 0) _ H3.out Try.underlying41 rfl (by rw [rootsTo_size]; exact HI.out) ?_)
        | (refine wpList_store_row rfl 41 _ _ rfl w.heap.size (rootsTo 256) rfl rfl 41 (Array.replicate 256 (.int .i64 0)) H2.out (by rw [rootsTo_size]; exact HI.out) (by rw [rootsTo_size, Array.size_replicate]) (rootsTo_one 256) ?_))
      refine bodyPost_ret (v := .agg (rootsTo 256)) ?_ rfl ⟨rfl, below_setRow HB.out (Nat.le_refl _) _⟩
      exact results_cell_row rfl _ _ w.heap.size 41 (rootsTo 256) (0, 0) _ rfl (setRow_heap _ _ _ _ _ _ H2.out) Try.underlying41 rfl (by rw [rootsTo_size]; exact HI.out)
end Go.Proofs.Ytneopnlklhcopaa
