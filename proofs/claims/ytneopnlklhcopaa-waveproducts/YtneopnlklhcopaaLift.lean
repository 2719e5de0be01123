/- The row's step for lists: what a list that is handed in reads as, and where it lies. -/
import Derived.Test.YtneopnlklhcopaaRows
import Derived.Test.YtneopnlklhcopaaN
import Derived.WalkKit
import Derived.ProofKit
import Derived.OpenShut
import Derived.SizedLaws
import Derived.LaidMore
import Derived.Stop.Joined
namespace Go.Proofs.Ytneopnlklhcopaa
open Go.ChangeShapes Go.WideShapes Go.ChangeAt Go.RowKit Slices Go.Proofs.Ytneopnlklhcopaa.Ring

theorem Try.own : ownKnob Try.prog.godebug = none := by kernel_rfl
theorem Try.laidOut : laidOutB Try.prog = true := by kernel_rfl
theorem Try.cells3 : Try.prog.cellsOf 3 = 1 := by kernel_rfl
theorem Try.bytes3 : Try.prog.bytesOf 3 = 8 := by kernel_rfl

/-- a list of whole numbers that is handed in: what it reads as, where it lies -/
theorem view {H : Type} {enc : TypeId × Value → H} {W : World} {fuel : Nat} {A : Option Addr} {n c : Nat} {d : DataW H} {p : List MemPlace}
    (h : DataW.trod enc Try.prog W 0 (fun _ => true) true fuel 22 (Value.slice A n c).cells.toList = some (d, p)) :
    ∃ l : List Int, l.length = n ∧ n ≤ c ∧ (A = none → n = 0 ∧ c = 0) ∧ (∀ a, A = some a → ∀ k, k < n → W.cell? (a.add k) = some (.int .i64 (l.getD k 0))) ∧ (d = .nil ∧ n = 0 ∨ ∃ sp, d = .slice (lits .i64 l) sp) := by
  rcases open_ints Try.underlying22 Try.underlying3 Try.cells3 h with ⟨hcs, hx⟩ | ⟨a, n', c', zs, hcs, _, hl, _, hz, hx, hcell, _⟩
  · simp [Value.cells] at hcs
    obtain ⟨rfl, rfl, rfl⟩ := hcs
    simp only [Prod.mk.injEq] at hx
    exact ⟨[], rfl, Nat.le_refl _, fun _ => ⟨rfl, rfl⟩, fun a e => by (cases e), .inl ⟨hx.1, rfl⟩⟩
  · simp [Value.cells] at hcs
    obtain ⟨rfl, rfl, rfl⟩ := hcs
    simp only [Prod.mk.injEq] at hx
    simp only [if_true] at hz
    refine ⟨zs.take n, by simp; omega, hl, fun e => by (cases e), fun a' e k hk => ?_, .inr ⟨_, hx.1⟩⟩
    injection e with e
    subst e
    rw [hcell k (by omega)]
    simp [List.getD, hk]
theorem lt_of_cell {W : World} {a : Addr} {v : Value} (h : W.cell? a = some v) : a.block < W.heap.size := World.block_lt_of_cell? W a h
theorem view_has {W : World} {A : Option Addr} {l : List Int} {n : Nat} (hl : l.length = n) (h : ∀ a, A = some a → ∀ k, k < n → W.cell? (a.add k) = some (.int .i64 (l.getD k 0))) (hA : A = none → n = 0) : Has W W.heap.size A l := by
  intro k hk
  rcases A with _ | a
  · have := hA rfl; omega
  · have hc := h a rfl k (by omega)
    exact ⟨a, rfl, by have := lt_of_cell hc; rwa [add_block] at this, hc⟩

theorem tab_of {W : World} : Tab W := trivial
end Go.Proofs.Ytneopnlklhcopaa
