/- What the listed table gives the walks. -/
import Derived.Test.YtlaejnbkgikfcaaDoorRows
import Derived.Test.YtlaejnbkgikfcaaDoorE
import Derived.WalkKit
import Derived.ProofKit
import Derived.OpenShut
import Derived.LaidMore
import Derived.Stop.Joined
namespace Go.Proofs.YtlaejnbkgikfcaaDoor
open Go.ChangeShapes Go.WideShapes Go.ChangeAt Go.RowKit Ring
theorem Tryd.cells3 : Tryd.prog.cellsOf 3 = 1 := by kernel_rfl
set_option maxRecDepth 100000
theorem gRoots : Tryd.prog.globalNamed "chatelaine/ring.roots" = some 0 := by kernel_rfl
theorem tRoots : (Tryd.prog.globals[0]?).map (·.type) = some 28 := by kernel_rfl
def laidR : List (String × DataW Unit) := [("chatelaine/ring.roots", Rows.laid_chatelaine_ring_roots)]
theorem laid_roots : (Rows.laid_chatelaine_ring_roots : DataW Unit) = .agg (rootL.map fun x => .lit (.int .i64 x)) := rfl
theorem door_met (os : Os) (args : Array Value) : laidMetH Tryd.prog laidR ((World.doorLaid Tryd.prog 14 os).forCall (fun _ _ => 0) ⟨#[], args, []⟩).memory :=
  laidMetH_of_parts3 (fuel := 8) (laidMet_of_run' 8 (by kernel_rfl) (by kernel_rfl)) (by kernel_rfl) (by kernel_rfl)
/-- what the listed table gives the walks -/
theorem tab_of {W : World} (h : laidMetH Tryd.prog laidR W) : Tab W := by
  rw [MakeChecks.laidMetH_plain _ _ _ (by kernel_rfl)] at h
  obtain ⟨ps, ⟨g, t, cs, f, p, q, hg, ht, hv, hd, _, _⟩, _, _⟩ := h
  obtain rfl := Option.some.inj (gRoots.symm.trans hg)
  obtain rfl := Option.some.inj (tRoots.symm.trans ht)
  obtain ⟨xs, m, _, hx, _, hn, hel⟩ := DataW.trod_array Tryd.underlying28 hd
  simp only [Prod.mk.injEq] at hx
  have hx1 := hx.1
  rw [laid_roots] at hx1
  injection hx1 with hx1
  intro i hi
  have h0 := hel i hi
  rw [Tryd.cells3] at h0
  have hxi : i < xs.length := by omega
  rw [List.getElem?_eq_getElem hxi] at h0
  obtain ⟨k, e1, e2, _⟩ := DataW.trod_int Tryd.underlying3 h0
  have hk : k = rRoot i := by
    have hr : i < rootL.length := hi
    have := congrArg (fun l => l[i]?) hx1
    simp only [List.getElem?_map, List.getElem?_eq_getElem hxi, List.getElem?_eq_getElem hr, Option.map_some, e2, Option.some.injEq, DataW.lit.injEq, Lit.int.injEq, true_and] at this
    rw [← this, ← root_at hi, List.getD_eq_getElem?_getD, List.getElem?_eq_getElem hr]; rfl
  subst hk
  rw [World.var?_cell hg hv i]
  have e3 : (cs.toList.drop (i * 1)).take 1 = [Value.int .i64 (rRoot i)] := e1
  have e4 := congrArg (fun l => l[0]?) e3
  simpa using e4
end Go.Proofs.YtlaejnbkgikfcaaDoor
