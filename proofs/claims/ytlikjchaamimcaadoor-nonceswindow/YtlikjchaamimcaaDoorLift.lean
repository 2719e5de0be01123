/- The row's step for lists: what a list that is handed in reads as, and where it lies. -/
import Derived.Test.YtlikjchaamimcaaDoorRows
import Derived.Test.YtlikjchaamimcaaDoorNf
import Derived.Test.YtlikjchaamimcaaDoorNg
import Derived.WalkKit
import Derived.ProofKit
import Derived.OpenShut
import Derived.SizedLaws
import Derived.LaidLaws
import Derived.LaidHandle
import Derived.LaidMore
import Derived.Stop.Joined
import Derived.ChangeSame
import Derived.ChangeVars
import Derived.JoinedOf
namespace Go.Proofs.YtlikjchaamimcaaDoor
open Go.ChangeShapes Go.WideShapes Go.ChangeAt Go.RowKit Slices

set_option maxRecDepth 100000
theorem Tryd.own : ownKnob Tryd.prog.godebug = none := by kernel_rfl
theorem Tryd.laidOut : laidOutB Tryd.prog = true := by kernel_rfl
theorem Tryd.cells3 : Tryd.prog.cellsOf 3 = 1 := by kernel_rfl
theorem Tryd.bytes3 : Tryd.prog.bytesOf 3 = 8 := by kernel_rfl

/-- a list of integers that is handed in: what it reads as, where it lies -/
theorem view {H : Type} {enc : TypeId × Value → H} {W : World} {fuel : Nat} {A : Option Addr} {n c : Nat} {d : DataW H} {p : List MemPlace} {t e : TypeId} {κ : IntKind}
    (ht : Tryd.prog.underlying t = some (.slice e)) (he : Tryd.prog.underlying e = some (.int κ)) (hc : Tryd.prog.cellsOf e = 1)
    (h : DataW.trod enc Tryd.prog W 0 (fun _ => true) true fuel t (Value.slice A n c).cells.toList = some (d, p)) :
    ∃ l : List Int, l.length = n ∧ n ≤ c ∧ (A = none → n = 0 ∧ c = 0) ∧ (∀ a, A = some a → ∀ k, k < n → W.cell? (a.add k) = some (.int κ (l.getD k 0))) ∧ (d = .nil ∧ n = 0 ∨ ∃ sp, d = .slice (lits κ l) sp) ∧ (∀ k, k < n → (Lit.int κ (l.getD k 0)).wf = true) := by
  rcases open_ints ht he hc h with ⟨hcs, hx⟩ | ⟨a, n', c', zs, hcs, _, hl, _, hz, hx, hcell, hwf⟩
  · simp [Value.cells] at hcs
    obtain ⟨rfl, rfl, rfl⟩ := hcs
    simp only [Prod.mk.injEq] at hx
    exact ⟨[], rfl, Nat.le_refl _, fun _ => ⟨rfl, rfl⟩, fun a e => by (cases e), .inl ⟨hx.1, rfl⟩, fun k hk => by cases hk⟩
  · simp [Value.cells] at hcs
    obtain ⟨rfl, rfl, rfl⟩ := hcs
    simp only [Prod.mk.injEq] at hx
    simp only [if_true] at hz
    have hg : ∀ k, k < n → (zs.take n).getD k 0 = zs.getD k 0 := fun k hk => getD_take zs n k hk
    refine ⟨zs.take n, by simp; omega, hl, fun e => by (cases e), fun a' e k hk => ?_, .inr ⟨_, hx.1⟩, fun k hk => ?_⟩
    · injection e with e
      subst e
      rw [hcell k (by omega), hg k hk]
    · rw [hg k hk, List.getD_eq_getElem?_getD, List.getElem?_eq_getElem (by omega)]
      exact hwf _ (List.getElem_mem _)
theorem lt_of_cell {W : World} {a : Addr} {v : Value} (h : W.cell? a = some v) : a.block < W.heap.size := World.block_lt_of_cell? W a h
theorem view_has {κ : IntKind} {W : World} {A : Option Addr} {l : List Int} {n : Nat} (hl : l.length = n) (h : ∀ a, A = some a → ∀ k, k < n → W.cell? (a.add k) = some (.int κ (l.getD k 0))) (hA : A = none → n = 0) : Has κ W W.heap.size A l := by
  intro k hk
  rcases A with _ | a
  · have := hA rfl; omega
  · have hc := h a rfl k (by omega)
    exact ⟨a, rfl, by have := lt_of_cell hc; rwa [add_block] at this, hc⟩
theorem Tryd.et : Tryd.prog.globalNamed "errors.errorType" = some 0 := by kernel_rfl
theorem Tryd.rt : (Tryd.prog.cutTypes.find? (·.1 == "internal/reflectlite.rtype")).map (·.2) = some 68 := by kernel_rfl
theorem int_wf {n : Int} (h : (Lit.int .i64 n).wf = true) : I64 n := by
  unfold I64
  simp [Lit.wf, IntKind.min, IntKind.max, IntKind.signed, IntKind.bits] at h
  omega
theorem word_wf {n : Int} (h : (Lit.int .u64 n).wf = true) : ∃ u : Nat, n = (u : Int) ∧ u < 2 ^ 64 := by
  simp [Lit.wf, IntKind.min, IntKind.max, IntKind.signed, IntKind.bits] at h
  exact ⟨n.toNat, by omega, by omega⟩
theorem Tryd.oneRow : ((List.range 113).filter fun t => Tryd.prog.rowNamed t [101, 114, 114, 111, 114]) = [24] := by kernel_rfl
theorem Tryd.tsize : Tryd.prog.types.size = 113 := by kernel_rfl
def laidR : List (String × DataW Unit) := [("errors.errorType", Rows.laid_errors_errorType)]
/-- what the listed variable gives the walks: its one cell -/
theorem han_of {W : World} (h : laidMetH Tryd.prog laidR W) : Han W := by
  have h' : laidMet Tryd.prog [] W ∧ handlesMet Tryd.prog laidR W := h
  obtain ⟨name, u, ty, e1, e2, e3, e4, e5⟩ := h'.2 _ (List.mem_singleton.2 rfl)
  have en : name = [101, 114, 114, 111, 114] := (Option.some.inj e1).symm
  subst en
  obtain rfl := Option.some.inj (Tryd.rt.symm.trans e2)
  have hm : ty ∈ (List.range 113).filter fun t => Tryd.prog.rowNamed t [101, 114, 114, 111, 114] := List.mem_filter.2 ⟨List.mem_range.2 (by rw [← Tryd.tsize]; exact e3), e4⟩
  rw [Tryd.oneRow] at hm
  obtain rfl := List.mem_singleton.1 hm
  have hh : typeHandle Tryd.prog 24 = .pointer (some ⟨1, 24, none⟩) := by kernel_rfl
  rw [hh] at e5
  unfold Han
  simpa using World.var?_cell Tryd.et e5 0
/-- a world that meets the condition: the settled one, the variable's cell laid -/
noncomputable def laidWorld (os : Os) : World :=
  let w0 := World.holding Tryd.prog os ⟨#[], #[], []⟩
  { w0 with heap := w0.heap.modify 0 fun
      | .cells _ t frozen => .cells #[.iface 68 (.agg #[.pointer (some ⟨1, 24, none⟩)])] t frozen
      | o => o }
theorem laidWorld_met (os : Os) (args : Array Value) : laidMetH Tryd.prog laidR ((laidWorld os).forCall (fun _ _ => 0) ⟨#[], args, []⟩).memory :=
  laidMetH_of_parts (laidMet_nil _ _) (by kernel_rfl)
end Go.Proofs.YtlikjchaamimcaaDoor
