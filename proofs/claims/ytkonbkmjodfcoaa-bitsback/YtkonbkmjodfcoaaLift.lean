/- The row's step for lists: what a list that is handed in reads as, and where it lies. -/
import Derived.Test.YtkonbkmjodfcoaaRows
import Derived.Test.YtkonbkmjodfcoaaK
import Derived.WalkKit
import Derived.ProofKit
import Derived.OpenShut
import Derived.SizedLaws
namespace Go.Proofs.Ytkonbkmjodfcoaa
open Go.ChangeShapes Go.WideShapes Go.ChangeAt Go.RowKit Slices Go.Proofs.Ytkonbkmjodfcoaa.Bit

theorem Try.own : ownKnob Try.prog.godebug = none := by kernel_rfl
theorem Try.laidOut : laidOutB Try.prog = true := by kernel_rfl
theorem Try.cells3 : Try.prog.cellsOf 3 = 1 := by kernel_rfl
theorem Try.cells5 : Try.prog.cellsOf 5 = 1 := by kernel_rfl
theorem Try.bytes3 : Try.prog.bytesOf 3 = 8 := by kernel_rfl
theorem Try.bytes5 : Try.prog.bytesOf 5 = 1 := by kernel_rfl

/-- a list of integers that is handed in: what it reads as, where it lies -/
theorem view {H : Type} {enc : TypeId × Value → H} {W : World} {fuel : Nat} {A : Option Addr} {n c : Nat} {d : DataW H} {p : List MemPlace} {t e : TypeId} {κ : IntKind}
    (ht : Try.prog.underlying t = some (.slice e)) (he : Try.prog.underlying e = some (.int κ)) (hc : Try.prog.cellsOf e = 1)
    (h : DataW.trod enc Try.prog W 0 (fun _ => true) true fuel t (Value.slice A n c).cells.toList = some (d, p)) :
    ∃ l : List Int, l.length = n ∧ n ≤ c ∧ (A = none → n = 0 ∧ c = 0) ∧ (∀ a, A = some a → ∀ k, k < n → W.cell? (a.add k) = some (.int κ (l.getD k 0))) ∧ (d = .nil ∧ n = 0 ∨ ∃ sp, d = .slice (lits κ l) sp) ∧ (∀ k, k < n → (Lit.int κ (l.getD k 0)).wf = true) := by
  rcases open_ints ht he hc h with ⟨hcs, hx⟩ | ⟨a, n', c', zs, hcs, _, hl, _, hz, hx, hcell, hwf⟩
  · simp [Value.cells] at hcs
    obtain ⟨rfl, rfl, rfl⟩ := hcs
    simp only [Prod.mk.injEq] at hx
    exact ⟨[], rfl, Nat.le_refl _, fun _ => ⟨rfl, rfl⟩, fun a e => by (cases e), .inl ⟨hx.1, rfl⟩, fun k hk => by cases hk⟩
  · simp [Value.cells] at hcs
    obtain ⟨rfl, rfl, rfl⟩ := hcs
    simp only [Prod.mk.injEq] at hx
    simp only [if_true] at hz
    have hg : ∀ k, k < n → (zs.take n).getD k 0 = zs.getD k 0 := fun k hk => getD_take zs n k hk
    refine ⟨zs.take n, by simp; omega, hl, fun e => by (cases e), fun a' e k hk => ?_, .inr ⟨_, hx.1⟩, fun k hk => ?_⟩
    · injection e with e
      subst e
      rw [hcell k (by omega), hg k hk]
    · rw [hg k hk, List.getD_eq_getElem?_getD, List.getElem?_eq_getElem (by omega)]
      exact hwf _ (List.getElem_mem _)
theorem lt_of_cell {W : World} {a : Addr} {v : Value} (h : W.cell? a = some v) : a.block < W.heap.size := World.block_lt_of_cell? W a h
theorem view_has {κ : IntKind} {W : World} {A : Option Addr} {l : List Int} {n : Nat} (hl : l.length = n) (h : ∀ a, A = some a → ∀ k, k < n → W.cell? (a.add k) = some (.int κ (l.getD k 0))) (hA : A = none → n = 0) : Has κ W W.heap.size A l := by
  intro k hk
  rcases A with _ | a
  · have := hA rfl; omega
  · have hc := h a rfl k (by omega)
    exact ⟨a, rfl, by have := lt_of_cell hc; rwa [add_block] at this, hc⟩
theorem view_fit {l : List Int} {n : Nat} (hl : l.length = n) (h : ∀ k, k < n → (Lit.int .u8 (l.getD k 0)).wf = true) : Fit 8 l := fun i hi => by
  have := h i (by omega)
  generalize l.getD i 0 = x at this
  simp [Lit.wf, IntKind.min, IntKind.max, IntKind.signed, IntKind.bits] at this
  omega
end Go.Proofs.Ytkonbkmjodfcoaa
