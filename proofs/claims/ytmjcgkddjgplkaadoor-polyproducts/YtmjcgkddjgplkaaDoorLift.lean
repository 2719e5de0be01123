/- The row's step for lists: what a list that is handed in reads as, and where it lies. -/
import Derived.Test.YtmjcgkddjgplkaaDoorRows
import Derived.Test.YtmjcgkddjgplkaaDoorN
import Derived.WalkKit
import Derived.ProofKit
import Derived.OpenShut
import Derived.SizedLaws
import Derived.LaidMore
import Derived.Stop.Joined
namespace Go.Proofs.YtmjcgkddjgplkaaDoor
open Go.ChangeShapes Go.WideShapes Go.ChangeAt Go.RowKit Slices Go.Proofs.YtmjcgkddjgplkaaDoor.Ring

theorem Tryd.own : ownKnob Tryd.prog.godebug = none := by kernel_rfl
theorem Tryd.laidOut : laidOutB Tryd.prog = true := by kernel_rfl
theorem Tryd.cells3 : Tryd.prog.cellsOf 3 = 1 := by kernel_rfl
theorem Tryd.bytes3 : Tryd.prog.bytesOf 3 = 8 := by kernel_rfl

/-- a list of whole numbers that is handed in: what it reads as, where it lies -/
theorem view {H : Type} {enc : TypeId × Value → H} {W : World} {fuel : Nat} {A : Option Addr} {n c : Nat} {d : DataW H} {p : List MemPlace}
    (h : DataW.trod enc Tryd.prog W 0 (fun _ => true) true fuel 22 (Value.slice A n c).cells.toList = some (d, p)) :
    ∃ l : List Int, l.length = n ∧ n ≤ c ∧ (A = none → n = 0 ∧ c = 0) ∧ (∀ a, A = some a → ∀ k, k < n → W.cell? (a.add k) = some (.int .i64 (l.getD k 0))) ∧ (d = .nil ∧ n = 0 ∨ ∃ sp, d = .slice (lits .i64 l) sp) := by
  rcases open_ints Tryd.underlying22 Tryd.underlying3 Tryd.cells3 h with ⟨hcs, hx⟩ | ⟨a, n', c', zs, hcs, _, hl, _, hz, hx, hcell, _⟩
  · simp [Value.cells] at hcs
    obtain ⟨rfl, rfl, rfl⟩ := hcs
    simp only [Prod.mk.injEq] at hx
    exact ⟨[], rfl, Nat.le_refl _, fun _ => ⟨rfl, rfl⟩, fun a e => by (cases e), .inl ⟨hx.1, rfl⟩⟩
  · simp [Value.cells] at hcs
    obtain ⟨rfl, rfl, rfl⟩ := hcs
    simp only [Prod.mk.injEq] at hx
    simp only [if_true] at hz
    refine ⟨zs.take n, by simp; omega, hl, fun e => by (cases e), fun a' e k hk => ?_, .inr ⟨_, hx.1⟩⟩
    injection e with e
    subst e
    rw [hcell k (by omega)]
    simp [List.getD, hk]
theorem lt_of_cell {W : World} {a : Addr} {v : Value} (h : W.cell? a = some v) : a.block < W.heap.size := World.block_lt_of_cell? W a h
theorem view_has {W : World} {A : Option Addr} {l : List Int} {n : Nat} (hl : l.length = n) (h : ∀ a, A = some a → ∀ k, k < n → W.cell? (a.add k) = some (.int .i64 (l.getD k 0))) (hA : A = none → n = 0) : Has W W.heap.size A l := by
  intro k hk
  rcases A with _ | a
  · have := hA rfl; omega
  · have hc := h a rfl k (by omega)
    exact ⟨a, rfl, by have := lt_of_cell hc; rwa [add_block] at this, hc⟩

set_option maxRecDepth 100000
theorem gRoots : Tryd.prog.globalNamed "chatelaine/ring.roots" = some 0 := by kernel_rfl
theorem tRoots : (Tryd.prog.globals[0]?).map (·.type) = some 42 := by kernel_rfl
def laidR : List (String × DataW Unit) := [("chatelaine/ring.roots", Rows.laid_chatelaine_ring_roots)]
theorem laid_roots : (Rows.laid_chatelaine_ring_roots : DataW Unit) = .agg (rootL.map fun x => .lit (.int .i64 x)) := rfl
theorem door_met (os : Os) (args : Array Value) : laidMetH Tryd.prog laidR ((World.doorLaid Tryd.prog 14 os).forCall (fun _ _ => 0) ⟨#[], args, []⟩).memory :=
  laidMetH_of_parts3 (fuel := 8) (laidMet_of_run' 8 (by kernel_rfl) (by kernel_rfl)) (by kernel_rfl) (by kernel_rfl)
/-- what the listed table gives the walks -/
theorem tab_of {W : World} (h : laidMetH Tryd.prog laidR W) : Tab W := by
  rw [MakeChecks.laidMetH_plain _ _ _ (by kernel_rfl)] at h
  obtain ⟨ps, ⟨g, t, cs, f, p, q, hg, ht, hv, hd, _, _⟩, _, _⟩ := h
  obtain rfl := Option.some.inj (gRoots.symm.trans hg)
  obtain rfl := Option.some.inj (tRoots.symm.trans ht)
  obtain ⟨xs, m, _, hx, _, hn, hel⟩ := DataW.trod_array Tryd.underlying42 hd
  simp only [Prod.mk.injEq] at hx
  have hx1 := hx.1
  rw [laid_roots] at hx1
  injection hx1 with hx1
  intro i hi
  have h0 := hel i hi
  rw [Tryd.cells3] at h0
  have hxi : i < xs.length := by omega
  rw [List.getElem?_eq_getElem hxi] at h0
  obtain ⟨k, e1, e2, _⟩ := DataW.trod_int Tryd.underlying3 h0
  have hk : k = rRoot i := by
    have hr : i < rootL.length := hi
    have := congrArg (fun l => l[i]?) hx1
    simp only [List.getElem?_map, List.getElem?_eq_getElem hxi, List.getElem?_eq_getElem hr, Option.map_some, e2, Option.some.injEq, DataW.lit.injEq, Lit.int.injEq, true_and] at this
    rw [← this, ← root_at hi, List.getD_eq_getElem?_getD, List.getElem?_eq_getElem hr]; rfl
  subst hk
  rw [World.var?_cell hg hv i]
  have e3 : (cs.toList.drop (i * 1)).take 1 = [Value.int .i64 (rRoot i)] := e1
  have e4 := congrArg (fun l => l[0]?) e3
  simpa using e4
end Go.Proofs.YtmjcgkddjgplkaaDoor
