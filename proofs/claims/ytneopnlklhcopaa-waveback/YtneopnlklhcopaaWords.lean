/- Words for slices of whole numbers: what a slice reads as, what a call made itself. Nothing of the program. -/
import Derived.WalkKit
import Derived.WalkSpells
import Derived.IntWalk
import Derived.Lib.Hide
import Derived.Below
import Derived.Laws.OwnMore
import Derived.OwnWalk
import Derived.ProofKit
import Derived.Deep.QuietTactic
import Derived.BigQuiet
import Derived.StillTailTactics
import Derived.Deep.AppendLies
namespace Go.Proofs.Slices
open Go.RowKit

def ints (l : List Int) : List Value := l.map (Value.int .i64)
theorem ints_get (l : List Int) (k : Nat) : (ints l)[k]? = l[k]?.map (Value.int .i64) := by simp [ints]
theorem ints_at {l : List Int} {k : Nat} (h : k < l.length) : (ints l)[k]? = some (.int .i64 (l.getD k 0)) := by
  rw [ints_get, List.getElem?_eq_getElem h, List.getD_eq_getElem?_getD, List.getElem?_eq_getElem h]; rfl

/-- the slice at A reads as l; its cells lie below block B -/
def Has (w : World) (B : Nat) (A : Option Addr) (l : List Int) : Prop :=
  ∀ k, k < l.length → ∃ a : Addr, A = some a ∧ a.block < B ∧ w.cell? (a.add k) = some (.int .i64 (l.getD k 0))

theorem add_block (a : Addr) (n : Nat) : (a.add n).block = a.block := by unfold Addr.add; split <;> rfl
theorem Has.keep {w w' : World} {B : Nat} {A : Option Addr} {l : List Int} (h : Has w B A l) (hk : ∀ p : Addr, p.block < B → w'.cell? p = w.cell? p) : Has w' B A l := fun k hl => by
  obtain ⟨a, e, hb, hc⟩ := h k hl
  exact ⟨a, e, hb, (hk _ (by rw [add_block]; exact hb)).trans hc⟩
theorem Has.below {w w' : World} {B : Nat} {A : Option Addr} {l : List Int} (h : Has w B A l) (hb : Below B w w') : Has w' B A l := h.keep fun _ hp => hb.cell hp
theorem Has.drewN {w : World} {B : Nat} {A : Option Addr} {l : List Int} (h : Has w B A l) (n : Nat) : Has (w.drewN n) B A l := h
theorem Has.mono {w : World} {B B' : Nat} {A : Option Addr} {l : List Int} (h : Has w B A l) (hB : B ≤ B') : Has w B' A l := fun k hl => by
  obtain ⟨a, e, hb, hc⟩ := h k hl
  exact ⟨a, e, by omega, hc⟩

theorem quiet_eq {P : Program} {f : FuncId} {args : Array Value} {w : World} {n : Nat} {v : Value}
    (h : Calls P f args (w.drewN n) fun e w' => e = .returned v ∧ w.drewN n = w') : Calls P f args (w.drewN n) fun e w'' => e = .returned v ∧ ∃ m, w'' = w.drewN m :=
  h.mono fun _ _ ⟨he, hm⟩ => ⟨he, n, hm.symm⟩

theorem ints_length (l : List Int) : (ints l).length = l.length := by simp [ints]
theorem ints_set (l : List Int) (i : Nat) (x : Int) : (ints l).set i (.int .i64 x) = ints (l.set i x) := by simp [ints, List.map_set]
theorem made_ints (N : Nat) : (madeCells (Value.int IntKind.i64 0).cells (N * 1)).toList = ints (List.replicate N 0) := by
  rw [Nat.mul_one]
  show (madeCells #[Value.int IntKind.i64 0] N).toList = _
  rw [toList_madeCells_one]; simp [ints]
theorem own_cell {w : World} {base g n c : Nat} {l : List Int} (h : w.ownsRow base 3 1 (.slice (some ⟨g, 0, none⟩) n c) n (ints l)) {k : Nat} (hk : k < n) :
    w.cell? ⟨g, k, none⟩ = some (.int .i64 (l.getD k 0)) := by
  have hl : l.length = n := by have := h.1; rw [ints_length] at this; omega
  rw [h.cellAt k (by omega), ints_at (by omega)]
theorem own_len {w : World} {base n : Nat} {v : Value} {l : List Int} (h : w.ownsRow base 3 1 v n (ints l)) : l.length = n := by
  have := h.1; rw [ints_length] at this; omega
theorem own_set {w : World} {base g n c : Nat} {l : List Int} (h : w.ownsRow base 3 1 (.slice (some ⟨g, 0, none⟩) n c) n (ints l)) (k : Nat) (x : Int) :
    (w.setCell ⟨g, k, none⟩ (.int .i64 x)).ownsRow base 3 1 (.slice (some ⟨g, 0, none⟩) n c) n (ints (l.set k x)) := by
  have := (h.stored k (.int .i64 x)).1
  rwa [ints_set] at this
theorem own_block {w : World} {base g n c : Nat} {xs : List Value} (h : w.ownsRow base 3 1 (.slice (some ⟨g, 0, none⟩) n c) n xs) : base ≤ g ∧ g < w.heap.size :=
  h.lt g rfl
theorem own_has {w : World} {base g n c : Nat} {l : List Int} (h : w.ownsRow base 3 1 (.slice (some ⟨g, 0, none⟩) n c) n (ints l)) : Has w w.heap.size (some ⟨g, 0, none⟩) l := fun k hk => by
  refine ⟨_, rfl, (own_block h).2, ?_⟩
  have := own_cell h (k := k) (by rw [← own_len h]; exact hk)
  rw [← this]
  congr 1
  unfold Addr.add
  split
  · simp
  · simp

theorem own_form {w : World} {base n : Nat} {v : Value} {xs : List Value} (h : w.ownsRow base 3 1 v n xs) (hn : 0 < n) : ∃ g c, v = .slice (some ⟨g, 0, none⟩) n c ∧ base ≤ g := by
  rcases h.2 with ⟨_, h0⟩ | ⟨g, c, cur, hv, hb, _⟩
  · omega
  · exact ⟨g, c, hv, hb⟩
theorem Has.addr {w : World} {B : Nat} {A : Option Addr} {l : List Int} (h : Has w B A l) (hl : 0 < l.length) :
    ∃ a : Addr, A = some a ∧ a.block < B ∧ ∀ j u, (ints l)[j]? = some u → w.cell? (a.add j) = some u := by
  obtain ⟨a, e, hb, _⟩ := h 0 hl
  refine ⟨a, e, hb, fun j u hu => ?_⟩
  have hj : j < l.length := by
    rw [← ints_length l]
    exact (List.getElem?_eq_some_iff.mp hu).1
  obtain ⟨a', e', _, hc⟩ := h j hj
  rw [ints_at hj] at hu
  rw [e] at e'
  injection e' with e'
  subst e'
  rw [hc, hu]
theorem ints_one (l : List Int) : ∀ u ∈ ints l, u.oneCell' = true := ints_oneCell .i64 l
theorem below_drewN {B : Nat} {a w : World} (h : Below B a w) (n : Nat) : Below B a (w.drewN n) := ⟨h.os, h.tape, h.output, h.size, h.block⟩
theorem still_eq {P : Program} {f : FuncId} {args : Array Value} {w : World} {v : Value}
    (h : Calls P f args w fun e w' => e = .returned v ∧ w = w') : Calls P f args w fun e w'' => e = .returned v ∧ w'' = w :=
  h.mono fun _ _ ⟨he, hm⟩ => ⟨he, hm.symm⟩
theorem own_spare {w : World} {B g m c : Nat} {xs : List Value} (h : w.ownsRow B 3 1 (.slice (some ⟨g, 0, none⟩) m c) m xs) {k : Nat} (hk : k < c) : ∃ v0, w.cell? ⟨g, k, none⟩ = some v0 := by
  rcases h.2 with ⟨h', _⟩ | ⟨g', c', cur, h', _, hg, _, _, hcs, _⟩
  · simp at h'
  · simp only [Value.slice.injEq, Option.some.injEq, Addr.mk.injEq, and_true, true_and] at h'
    obtain ⟨rfl, rfl⟩ := h'
    rw [cell_of_row w g k cur 3 (0, 0) hg, Array.getElem?_eq_getElem (by omega)]
    exact ⟨_, rfl⟩
theorem own_push {w : World} {B g m c : Nat} {xs : List Value} (h : w.ownsRow B 3 1 (.slice (some ⟨g, 0, none⟩) m c) m xs) (hm : m < c) (u : Value) :
    (w.setCell ⟨g, m, none⟩ u).ownsRow B 3 1 (.slice (some ⟨g, 0, none⟩) (m + 1) c) (m + 1) (xs ++ [u]) := by
  have hl := h.1
  rcases h.2 with ⟨h', _⟩ | ⟨g', c', cur, h', hb, hg, hnc, hcm, hcs, htake⟩
  · simp at h'
  · simp only [Value.slice.injEq, Option.some.injEq, Addr.mk.injEq, and_true, true_and] at h'
    obtain ⟨rfl, rfl⟩ := h'
    refine ⟨by rw [List.length_append, hl]; simp, .inr ⟨g, c, cur.setIfInBounds m u, rfl, hb, heap_setCell_same w g m cur 3 u hg, by omega, hcm, by simpa using hcs, ?_⟩⟩
    rw [Array.toList_setIfInBounds, Nat.mul_one, List.take_succ_eq_append_getElem (by rw [List.length_set, Array.length_toList, hcs]; omega), List.take_set, List.getElem_set_self]
    rw [Nat.mul_one] at htake
    rw [htake, List.set_eq_of_length_le (by rw [hl]; omega)]
/-- fewer of what is owned -/
theorem own_less {w : World} {B g m c n : Nat} {l l' : List Int} (h : w.ownsRow B 3 1 (.slice (some ⟨g, 0, none⟩) m c) m (ints (l ++ l'))) (hn : l.length = n) : w.ownsRow B 3 1 (.slice (some ⟨g, 0, none⟩) n c) n (ints l) := by
  have hl := own_len h
  rw [List.length_append] at hl
  rcases h.2 with ⟨h', _⟩ | ⟨g', c', cur, h', hb, hg, hnc, hcm, hcs, htake⟩
  · simp at h'
  · simp only [Value.slice.injEq, Option.some.injEq, Addr.mk.injEq, and_true, true_and] at h'
    obtain ⟨rfl, rfl⟩ := h'
    refine ⟨by rw [ints_length]; omega, .inr ⟨g, c, cur, rfl, hb, hg, by omega, hcm, hcs, ?_⟩⟩
    have : cur.toList.take (n * 1) = (cur.toList.take (m * 1)).take (n * 1) := by rw [List.take_take]; congr 1; omega
    rw [this, htake]
    unfold ints
    rw [List.map_append, List.take_left' (by rw [List.length_map]; omega)]
end Go.Proofs.Slices
