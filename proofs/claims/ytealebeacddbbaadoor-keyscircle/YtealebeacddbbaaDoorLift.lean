/- The row's step for keys: what a key that is handed in reads as, and where it lies. -/
import Derived.Test.YtealebeacddbbaaDoorRows
import Derived.Test.YtealebeacddbbaaDoorKe
import Derived.ChangeMaps5
import Derived.Deep.Slices
import Derived.ChangeArms
import Derived.WalkKit
import Derived.ProofKit
import Derived.OpenShut
import Derived.SizedLaws
import Derived.LaidLaws
import Derived.LaidHandle
import Derived.LaidMore
import Derived.Stop.Joined
import Derived.ChangeSame
import Derived.ChangeVars
import Derived.JoinedOf
namespace Go.Proofs.YtealebeacddbbaaDoor
open Go.ChangeShapes Go.WideShapes Go.ChangeAt Go.RowKit Slices

set_option maxRecDepth 100000
theorem Tryd.own : ownKnob Tryd.prog.godebug = none := by kernel_rfl
theorem Tryd.laidOut : laidOutB Tryd.prog = true := by kernel_rfl
theorem Tryd.cells3 : Tryd.prog.cellsOf 3 = 1 := by kernel_rfl
theorem Tryd.cells5 : Tryd.prog.cellsOf 5 = 1 := by kernel_rfl

theorem lt_of_cell {W : World} {a : Addr} {v : Value} (h : W.cell? a = some v) : a.block < W.heap.size := World.block_lt_of_cell? W a h
theorem Tryd.et : Tryd.prog.globalNamed "errors.errorType" = some 0 := by kernel_rfl
theorem Tryd.rt : (Tryd.prog.cutTypes.find? (·.1 == "internal/reflectlite.rtype")).map (·.2) = some 95 := by kernel_rfl
theorem Tryd.oneRow : ((List.range 141).filter fun t => Tryd.prog.rowNamed t [101, 114, 114, 111, 114]) = [34] := by kernel_rfl
theorem Tryd.tsize : Tryd.prog.types.size = 141 := by kernel_rfl
def laidR : List (String × DataW Unit) := [("errors.errorType", Rows.laid_errors_errorType)]
/-- what the listed variable gives the walks: its one cell -/
theorem han_of {W : World} (h : laidMetH Tryd.prog laidR W) : Han W := by
  have h' : laidMet Tryd.prog [] W ∧ handlesMet Tryd.prog laidR W := h
  obtain ⟨name, u, ty, e1, e2, e3, e4, e5⟩ := h'.2 _ (List.mem_singleton.2 rfl)
  have en : name = [101, 114, 114, 111, 114] := (Option.some.inj e1).symm
  subst en
  obtain rfl := Option.some.inj (Tryd.rt.symm.trans e2)
  have hm : ty ∈ (List.range 141).filter fun t => Tryd.prog.rowNamed t [101, 114, 114, 111, 114] := List.mem_filter.2 ⟨List.mem_range.2 (by rw [← Tryd.tsize]; exact e3), e4⟩
  rw [Tryd.oneRow] at hm
  obtain rfl := List.mem_singleton.1 hm
  have hh : typeHandle Tryd.prog 34 = .pointer (some ⟨1, 34, none⟩) := by kernel_rfl
  rw [hh] at e5
  unfold Han
  simpa using World.var?_cell Tryd.et e5 0
/-- a world that meets the condition: the settled one, the variable's cell laid -/
noncomputable def laidWorld (os : Os) : World :=
  let w0 := World.holding Tryd.prog os ⟨#[], #[], []⟩
  { w0 with heap := w0.heap.modify 0 fun
      | .cells _ t frozen => .cells #[.iface 95 (.agg #[.pointer (some ⟨1, 34, none⟩)])] t frozen
      | o => o }
theorem laidWorld_met (os : Os) (args : Array Value) : laidMetH Tryd.prog laidR ((laidWorld os).forCall (fun _ _ => 0) ⟨#[], args, []⟩).memory :=
  laidMetH_of_parts (laidMet_nil _ _) (by kernel_rfl)

theorem int_wf {n : Int} (h : (Lit.int .i64 n).wf = true) : I64 n := by
  unfold I64
  simp [Lit.wf, IntKind.min, IntKind.max, IntKind.signed, IntKind.bits] at h
  omega
theorem Tryd.cellsB : Tryd.prog.cellsOf 28 = 1 := by kernel_rfl
theorem Tryd.cellsVs : Tryd.prog.cellsOf 22 = 1 := by kernel_rfl
theorem Tryd.cellsVer : Tryd.prog.cellsOf 30 = 4 := by kernel_rfl
theorem Tryd.cellsKey : Tryd.prog.cellsOf 24 = 4 := by kernel_rfl
/-- bytes in a field -/
theorem viewB {H : Type} {enc : TypeId × Value → H} {W : World} {fuel : Nat} {cs : List Value} {x : DataW H × List MemPlace}
    (h : DataW.trod enc Tryd.prog W 0 (fun _ => true) true fuel 28 cs = some x) :
    ∃ (A : Option Addr) (c : Nat) (l : List Int), cs = [.slice A l.length c] ∧ l.length ≤ c ∧ (A = none → l.length = 0 ∧ c = 0) ∧ Has .u8 W W.heap.size A l := by
  rcases open_ints Tryd.underlying28 Tryd.underlying5 Tryd.cells5 h with ⟨hcs, _⟩ | ⟨a, n, c, zs, hcs, _, hl, _, hz, _, hcell, _⟩
  · exact ⟨none, 0, [], hcs, Nat.le_refl _, fun _ => ⟨rfl, rfl⟩, Has.nil _ _ _ _⟩
  · simp only [if_true] at hz
    have hn : (zs.take n).length = n := by rw [List.length_take]; omega
    refine ⟨some a, c, zs.take n, by rw [hn]; exact hcs, by omega, (fun e => by cases e), fun k hk => ?_⟩
    rw [hn] at hk
    have hc := hcell k (by omega)
    exact ⟨a, rfl, by have := lt_of_cell hc; rwa [add_block] at this, by rw [getD_take zs n k hk]; exact hc⟩
/-- versions in a field -/
theorem viewVs {H : Type} {enc : TypeId × Value → H} {W : World} {fuel : Nat} {cs : List Value} {x : DataW H × List MemPlace}
    (h : DataW.trod enc Tryd.prog W 0 (fun _ => true) true fuel 22 cs = some x) :
    ∃ (A : Option Addr) (c : Nat) (l : List Ver), cs = [.slice A l.length c] ∧ l.length ≤ c ∧ (A = none → l.length = 0 ∧ c = 0) ∧ HasV W W.heap.size A l ∧ ∀ k, k < l.length → I64 (vg l k).n ∧ I64 (vg l k).st ∧ I64 (vg l k).due := by
  rcases Go.Deep.open_slice Tryd.underlying22 h with ⟨hcs, _⟩ | ⟨a, n, c, m, n', D, Pl, hcs, _, hl, _, hm, _, hr⟩
  · exact ⟨none, 0, [], hcs, Nat.le_refl _, fun _ => ⟨rfl, rfl⟩, fun k hk => (by cases hk), fun k hk => (by cases hk)⟩
  · have hm' : m = c := by simpa using hm
    have one : ∀ i, ∃ t : Ver, i < n → ((∃ (S : Option Addr) (cc : Nat), W.cell? (a.add (i * 4)) = some (.int .i64 t.n) ∧ W.cell? ((a.add (i * 4)).add 1) = some (.int .i64 t.st) ∧ W.cell? ((a.add (i * 4)).add 2) = some (.int .i64 t.due) ∧ W.cell? ((a.add (i * 4)).add 3) = some (.slice S t.seed.length cc) ∧ Has .u8 W W.heap.size S t.seed ∧ (S = none → t.seed.length = 0 ∧ cc = 0) ∧ t.seed.length ≤ cc) ∧ I64 t.n ∧ I64 t.st ∧ I64 t.due) := fun i => by
      by_cases hi : i < n
      · obtain ⟨cs, hc, ht⟩ := hr i (by omega)
        rw [Tryd.cellsVer] at hc
        obtain ⟨xs, k, _, _, hcl, hxl, hf⟩ := DataW.trod_struct Tryd.underlying30 ht
        rw [Tryd.cellsVer] at hcl
        obtain ⟨_, _, hat⟩ := World.cells?_some hc
        have pick : ∀ (j : Nat) (v : Value), j < 4 → (cs.drop j).take 1 = [v] → W.cell? ((a.add (i * 4)).add j) = some v := fun j v hj hv => by
          have h8 : j < cs.length := by omega
          rw [List.drop_eq_getElem_cons h8, List.take_succ_cons, List.take_zero] at hv
          injection hv with hv _
          rw [hat j hj, List.getElem?_eq_getElem h8, hv]
        have f0 : DataW.trod enc Tryd.prog W 0 (fun _ => true) true k 3 ((cs.drop 0).take (Tryd.prog.cellsOf 3)) = xs[0]? := hf 0 _ rfl
        rw [show Tryd.prog.cellsOf 3 = 1 from Tryd.cells3, List.getElem?_eq_getElem (by rw [hxl]; decide)] at f0
        obtain ⟨z0, e0, _, w0⟩ := DataW.trod_int Tryd.underlying3 f0
        have f1 : DataW.trod enc Tryd.prog W 0 (fun _ => true) true k 3 ((cs.drop 1).take (Tryd.prog.cellsOf 3)) = xs[1]? := hf 1 _ rfl
        rw [show Tryd.prog.cellsOf 3 = 1 from Tryd.cells3, List.getElem?_eq_getElem (by rw [hxl]; decide)] at f1
        obtain ⟨z1, e1, _, w1⟩ := DataW.trod_int Tryd.underlying3 f1
        have f2 : DataW.trod enc Tryd.prog W 0 (fun _ => true) true k 3 ((cs.drop 2).take (Tryd.prog.cellsOf 3)) = xs[2]? := hf 2 _ rfl
        rw [show Tryd.prog.cellsOf 3 = 1 from Tryd.cells3, List.getElem?_eq_getElem (by rw [hxl]; decide)] at f2
        obtain ⟨z2, e2, _, w2⟩ := DataW.trod_int Tryd.underlying3 f2
        have f3 : DataW.trod enc Tryd.prog W 0 (fun _ => true) true k 28 ((cs.drop 3).take (Tryd.prog.cellsOf 28)) = xs[3]? := hf 3 _ rfl
        rw [show Tryd.prog.cellsOf 28 = 1 from Tryd.cellsB, List.getElem?_eq_getElem (by rw [hxl]; decide)] at f3
        obtain ⟨A3, c3, l3, e3, m3, n3, h3⟩ := viewB f3
        exact ⟨⟨z0, z1, z2, l3⟩, fun _ => ⟨⟨A3, c3, pick 0 _ (by omega) e0, pick 1 _ (by omega) e1, pick 2 _ (by omega) e2, pick 3 _ (by omega) e3, h3, n3, m3⟩, int_wf w0, int_wf w1, int_wf w2⟩⟩
      · exact ⟨ver0, fun h => absurd h hi⟩
    obtain ⟨f, hf⟩ := Classical.axiomOfChoice one
    have hlen : ((List.range n).map f).length = n := by simp
    have hg : ∀ k, k < n → vg ((List.range n).map f) k = f k := fun k hk => by
      unfold vg
      rw [List.getD_eq_getElem?_getD, List.getElem?_map, List.getElem?_range hk]; rfl
    refine ⟨some a, c, (List.range n).map f, by rw [hlen]; exact hcs, by rw [hlen]; exact hl, (fun e => by cases e), fun k hk => ?_, fun k hk => ?_⟩
    · rw [hlen] at hk
      rw [hg k hk]
      obtain ⟨⟨S, cc, q0, q1, q2, q3, q4, q5, q6⟩, _⟩ := hf k hk
      exact ⟨a, S, cc, rfl, by have := lt_of_cell q0; rwa [add_block] at this, q0, q1, q2, q3, q4, q5, q6⟩
    · rw [hlen] at hk
      rw [hg k hk]
      exact (hf k hk).2
theorem four {V : Array Value} (h : V.size = 4) : ∃ v0 v1 v2 v3, V = #[v0, v1, v2, v3] := by
  rcases V with ⟨l⟩
  match l, h with
  | [a, b, c, d], _ => exact ⟨a, b, c, d, rfl⟩
/-- a key that is handed in -/
theorem viewKey {H : Type} {enc : TypeId × Value → H} {W : World} {fuel : Nat} {V : Array Value} {x : DataW H × List MemPlace}
    (h : DataW.trod enc Tryd.prog W 0 (fun _ => true) true fuel 24 V.toList = some x) :
    ∃ (K : KeyV) (A : Option Addr) (c : Nat), V = #[.int .i64 K.id, .int .i64 K.ten, .int .i64 K.set, .slice A K.vs.length c] ∧ RdK W A c K ∧ WideK K := by
  obtain ⟨xs, k, _, _, hcl, hxl, hf⟩ := DataW.trod_struct Tryd.underlying24 h
  rw [Tryd.cellsKey] at hcl
  have hs : V.size = 4 := by simpa using hcl
  have f0 : DataW.trod enc Tryd.prog W 0 (fun _ => true) true k 3 ((V.toList.drop 0).take (Tryd.prog.cellsOf 3)) = xs[0]? := hf 0 _ rfl
  rw [show Tryd.prog.cellsOf 3 = 1 from Tryd.cells3, List.getElem?_eq_getElem (by rw [hxl]; decide)] at f0
  obtain ⟨z0, e0, _, w0⟩ := DataW.trod_int Tryd.underlying3 f0
  have f1 : DataW.trod enc Tryd.prog W 0 (fun _ => true) true k 3 ((V.toList.drop 1).take (Tryd.prog.cellsOf 3)) = xs[1]? := hf 1 _ rfl
  rw [show Tryd.prog.cellsOf 3 = 1 from Tryd.cells3, List.getElem?_eq_getElem (by rw [hxl]; decide)] at f1
  obtain ⟨z1, e1, _, w1⟩ := DataW.trod_int Tryd.underlying3 f1
  have f2 : DataW.trod enc Tryd.prog W 0 (fun _ => true) true k 3 ((V.toList.drop 2).take (Tryd.prog.cellsOf 3)) = xs[2]? := hf 2 _ rfl
  rw [show Tryd.prog.cellsOf 3 = 1 from Tryd.cells3, List.getElem?_eq_getElem (by rw [hxl]; decide)] at f2
  obtain ⟨z2, e2, _, w2⟩ := DataW.trod_int Tryd.underlying3 f2
  have f3 : DataW.trod enc Tryd.prog W 0 (fun _ => true) true k 22 ((V.toList.drop 3).take (Tryd.prog.cellsOf 22)) = xs[3]? := hf 3 _ rfl
  rw [show Tryd.prog.cellsOf 22 = 1 from Tryd.cellsVs, List.getElem?_eq_getElem (by rw [hxl]; decide)] at f3
  obtain ⟨A3, c3, l3, e3, m3, n3, h3, w3⟩ := viewVs f3
  obtain ⟨v0, v1, v2, v3, rfl⟩ := four hs
  have q0 : [v0] = _ := e0
  injection q0 with q0 _
  subst q0
  have q1 : [v1] = _ := e1
  injection q1 with q1 _
  subst q1
  have q2 : [v2] = _ := e2
  injection q2 with q2 _
  subst q2
  have q3 : [v3] = _ := e3
  injection q3 with q3 _
  subst q3
  exact ⟨⟨z0, z1, z2, l3⟩, A3, c3, rfl, ⟨h3, n3, m3⟩, ⟨int_wf w0, int_wf w1, int_wf w2, w3⟩⟩
end Go.Proofs.YtealebeacddbbaaDoor
