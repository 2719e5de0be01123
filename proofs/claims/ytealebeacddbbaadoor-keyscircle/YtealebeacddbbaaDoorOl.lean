/- Contract: the library's slices.Backward over versions: its function hands over the last one first. -/
import Derived.RangeFuncNested
import Derived.RangeFuncLeaves
import Derived.Shelf.Abstract
import Derived.WalkKit
import Derived.OwnWalkIn
import Derived.TacticsInMore
import Derived.LoopNIn
import Derived.LoopIn
import Derived.Test.YtealebeacddbbaaDoorOe
namespace Go.Proofs.YtealebeacddbbaaDoor
open Go.RowKit Slices Go.Shelf

attribute [local go_sem] Oper.semAt_some

/-- n - 1, n - 2, ..: k of them -/
def downs (n k : Nat) : List Nat := (List.range k).map fun t => n - 1 - t
theorem downs_succ (n k : Nat) : downs n (k + 1) = downs n k ++ [n - 1 - k] := by simp [downs, List.range_succ]
theorem downs_len (n k : Nat) : (downs n k).length = k := by simp [downs]
theorem downs_mem {n k x : Nat} (hk : k ≤ n) : x ∈ downs n k ↔ n - k ≤ x ∧ x < n := by
  simp only [downs, List.mem_map, List.mem_range]
  constructor
  · rintro ⟨t, ht, rfl⟩; omega
  · rintro ⟨h1, h2⟩; exact ⟨n - 1 - x, by omega, by omega⟩
/-- what a round is handed: the place, the version there -/
def encV (l : List Ver) (VS : Nat → Option Addr × Nat) (j : Nat) : Array Value := #[.int .i64 (j : Int), .agg #[.int .i64 (vg l j).n, .int .i64 (vg l j).st, .int .i64 (vg l j).due, .slice (VS j).1 (vg l j).seed.length (VS j).2]]

set_option maxRecDepth 100000 in
set_option maxHeartbeats 2000000 in
theorem backward1_in (F : Fence) (m : Nat) (hf : F.fn 39) (hro : F.round = none) (hm : 1 ≤ m) (lp Bs n₀ n c : Nat) (A : Option Addr) (l : List Ver) (VS : Nat → Option Addr × Nat) (few : n ≤ 12) (J Jx : List Nat → World → Prop) (hB : Bs < n₀)
    (hY : ∀ pre x W, J pre W → pre.length < n → YieldAt F (m - 1) Tryd.prog lp (encV l VS x) W fun e W' =>
      (e = .returned (.bool true) ∧ J (pre ++ [x]) W' ∧ Below n₀ W W') ∨ (e = .returned (.bool false) ∧ Jx (pre ++ [x]) W'))
    (W : World) (hBs : W.cell? ⟨Bs, 0, none⟩ = some (.slice A n c)) (hc : HasM W n₀ A 4 n (verF l VS)) (h0 : J [] W) :
    CallsIn F m Tryd.prog 39 #[.func (.yield lp) #[] #[], .pointer (some ⟨Bs, 0, none⟩)] W fun e W' => (∃ v, e = .returned v) ∧
      ((∃ ys, ys = downs n n ∧ J ys W') ∨ (∃ pre, (∃ k, k ≤ n ∧ pre = downs n k) ∧ Jx pre W')) := by
  refine callsIn_of_wp Tryd.func39 rfl hf ?_ hro
  simp only [Tryd.ntmps39, List.size_toArray, List.length_cons, List.length_nil, Nat.reduceAdd, Nat.reduceSub, Array.replicate_succ, Array.replicate_zero, List.push_toArray, List.append_toArray, List.nil_append, List.cons_append]
  gi_wp2
  gi_loopw [3] (fun i wr => ∃ k : Nat, k ≤ n ∧ i = .int .i64 ((n : Int) - 1 - k) ∧ J (downs n k) wr ∧ Below n₀ W wr)
    (fun i _ => (intOf i + 1).toNat)
  case atStart => exact ⟨0, Nat.zero_le _, by go_num, h0, Below.refl _ _⟩
  case round =>
    obtain ⟨k, hk, rfl, hJs, hnx⟩ := hrel
    by_cases hlt : k < n
    · obtain ⟨j, hj⟩ : ∃ j : Nat, j = n - 1 - k := ⟨_, rfl⟩
      have hjn : j < n := by omega
      have hji : (n : Int) - 1 - k = (j : Int) := by omega
      rw [hji]
      have HJ := Lib.hid hj
      have HJI := Lib.hid hji
      clear hj hji
      obtain ⟨a, rfl, hab, a0, ar⟩ := hc.row hjn (by omega)
      have b0 : wr.cell? (a.add (j * 4)) = some (.int .i64 (vg l j).n) := (hnx.cell (by rw [add_block]; exact hab)).trans a0
      have b1 : wr.cell? ⟨(a.add (j * 4)).block, (a.add (j * 4)).off + 1, none⟩ = some (.int .i64 (vg l j).st) := (hnx.cell (p := ⟨(a.add (j * 4)).block, (a.add (j * 4)).off + 1, none⟩) (by show (a.add (j * 4)).block < _; rw [add_block]; exact hab)).trans (ar 1 (by omega) (by omega))
      have b2 : wr.cell? ⟨(a.add (j * 4)).block, (a.add (j * 4)).off + 2, none⟩ = some (.int .i64 (vg l j).due) := (hnx.cell (p := ⟨(a.add (j * 4)).block, (a.add (j * 4)).off + 2, none⟩) (by show (a.add (j * 4)).block < _; rw [add_block]; exact hab)).trans (ar 2 (by omega) (by omega))
      have b3 : wr.cell? ⟨(a.add (j * 4)).block, (a.add (j * 4)).off + 3, none⟩ = some (.slice (VS j).1 (vg l j).seed.length (VS j).2) := (hnx.cell (p := ⟨(a.add (j * 4)).block, (a.add (j * 4)).off + 3, none⟩) (by show (a.add (j * 4)).block < _; rw [add_block]; exact hab)).trans (ar 3 (by omega) (by omega))
      have bs := (hnx.cell (p := ⟨Bs, 0, none⟩) hB).trans hBs
      obtain ⟨fn, tmps, assign, body, hy, hR⟩ := hY _ j wr hJs (by rw [downs_len]; exact hlt)
      dsimp only [encV] at hy
      gi_wp2
      refine hR.mono ?_
      rintro e W3 (⟨rfl, hJ3, hk3⟩ | ⟨rfl, hJx3⟩)
      · gi_wp2
        go_roundw
        case rel => exact ⟨k + 1, by omega, by have := HJI.out; simp; omega, by rw [downs_succ, ← HJ.out]; exact hJ3, hnx.trans hk3⟩
        case measure => simp [intOf]
      · gi_wp2
        refine bodyPost_ret (results_none rfl _ _ _) rfl ?_
        exact ⟨⟨_, rfl⟩, .inr ⟨_, ⟨k + 1, by omega, by rw [downs_succ, ← HJ.out]⟩, hJx3⟩⟩
    · obtain rfl : k = n := by omega
      gi_wp2
      go_end0
      exact ⟨⟨_, rfl⟩, .inl ⟨_, rfl, hJs⟩⟩
set_option maxHeartbeats 1000000 in
theorem backward_in (F : Fence) (m : Nat) (hf : F.fn 26) (hro : F.round = none) (A : Option Addr) (n c : Nat) (w : World) :
    CallsIn F m Tryd.prog 26 #[.slice A n c] w fun e w' => e = .returned (.func (.func 39) #[] #[.pointer (some ⟨w.heap.size, 0, none⟩)]) ∧ w' = w.alloc (.cells #[.slice A n c] 22) := by
  refine callsIn_of_wp Tryd.func26 rfl hf ?_ hro
  simp only [Tryd.ntmps26, List.size_toArray, List.length_cons, List.length_nil, Nat.reduceAdd, Nat.reduceSub, Array.replicate_succ, Array.replicate_zero, List.push_toArray, List.append_toArray, List.nil_append, List.cons_append]
  gi_wp2
  go_ret
  exact ⟨rfl, rfl⟩
/-- what slices.Backward hands back gives the versions, the last one first -/
theorem backward_stops (F : Fence) (m : Nat) (hf : F.fn 39) (hro : F.round = none) (hm : 1 ≤ m) (Bs n₀ n c : Nat) (A : Option Addr) (l : List Ver) (VS : Nat → Option Addr × Nat) (few : n ≤ 12) (w : World) (hB : Bs < n₀) (h0 : n₀ ≤ w.heap.size)
    (hBs : w.cell? ⟨Bs, 0, none⟩ = some (.slice A n c)) (hc : HasM w n₀ A 4 n (verF l VS)) :
    SeqStopsK F m Tryd.prog 39 #[.pointer (some ⟨Bs, 0, none⟩)] (encV l VS) (Below n₀) (fun ys => ys = downs n n) (fun pre => ∃ k, k ≤ n ∧ pre = downs n k) n w := fun lp J Jx W hW _ _ hY h1 => by
  have hW' := hW.mono h0
  refine backward1_in F m hf hro hm lp Bs n₀ n c A l VS few J Jx hB hY W ((hW'.cell (p := ⟨Bs, 0, none⟩) hB).trans hBs) ?_ h1
  intro j r hj hr
  obtain ⟨a, e, hab, h⟩ := hc j r hj hr
  exact ⟨a, e, hab, (hW'.cell (by rw [add_block]; exact hab)).trans h⟩
end Go.Proofs.YtealebeacddbbaaDoor
