/- The row's step for lists: what a list that is handed in reads as, and where it lies. -/
import Derived.Test.YtidpihpddkfhgaaDoorRows
import Derived.Test.YtidpihpddkfhgaaDoorAl
import Derived.Test.YtidpihpddkfhgaaDoorAn
import Derived.ChangeMaps5
import Derived.Deep.Slices
import Derived.ChangeArms
import Derived.WalkKit
import Derived.ProofKit
import Derived.OpenShut
import Derived.SizedLaws
import Derived.LaidLaws
import Derived.LaidHandle
import Derived.LaidMore
import Derived.Stop.Joined
import Derived.ChangeSame
import Derived.ChangeVars
import Derived.JoinedOf
namespace Go.Proofs.YtidpihpddkfhgaaDoor
open Go.ChangeShapes Go.WideShapes Go.ChangeAt Go.RowKit Slices Go.Proofs.YtidpihpddkfhgaaDoor.Bit

set_option maxRecDepth 100000
theorem Tryd.own : ownKnob Tryd.prog.godebug = none := by kernel_rfl
theorem Tryd.laidOut : laidOutB Tryd.prog = true := by kernel_rfl
theorem Tryd.cells3 : Tryd.prog.cellsOf 3 = 1 := by kernel_rfl
theorem Tryd.cells5 : Tryd.prog.cellsOf 5 = 1 := by kernel_rfl
theorem Tryd.bytes3 : Tryd.prog.bytesOf 3 = 8 := by kernel_rfl
theorem Tryd.bytes5 : Tryd.prog.bytesOf 5 = 1 := by kernel_rfl

/-- a list of integers that is handed in: what it reads as, where it lies -/
theorem view {H : Type} {enc : TypeId × Value → H} {W : World} {fuel : Nat} {A : Option Addr} {n c : Nat} {d : DataW H} {p : List MemPlace} {t e : TypeId} {κ : IntKind}
    (ht : Tryd.prog.underlying t = some (.slice e)) (he : Tryd.prog.underlying e = some (.int κ)) (hc : Tryd.prog.cellsOf e = 1)
    (h : DataW.trod enc Tryd.prog W 0 (fun _ => true) true fuel t (Value.slice A n c).cells.toList = some (d, p)) :
    ∃ l : List Int, l.length = n ∧ n ≤ c ∧ (A = none → n = 0 ∧ c = 0) ∧ (∀ a, A = some a → ∀ k, k < n → W.cell? (a.add k) = some (.int κ (l.getD k 0))) ∧ (d = .nil ∧ n = 0 ∨ ∃ sp, d = .slice (lits κ l) sp) ∧ (∀ k, k < n → (Lit.int κ (l.getD k 0)).wf = true) := by
  rcases open_ints ht he hc h with ⟨hcs, hx⟩ | ⟨a, n', c', zs, hcs, _, hl, _, hz, hx, hcell, hwf⟩
  · simp [Value.cells] at hcs
    obtain ⟨rfl, rfl, rfl⟩ := hcs
    simp only [Prod.mk.injEq] at hx
    exact ⟨[], rfl, Nat.le_refl _, fun _ => ⟨rfl, rfl⟩, fun a e => by (cases e), .inl ⟨hx.1, rfl⟩, fun k hk => by cases hk⟩
  · simp [Value.cells] at hcs
    obtain ⟨rfl, rfl, rfl⟩ := hcs
    simp only [Prod.mk.injEq] at hx
    simp only [if_true] at hz
    have hg : ∀ k, k < n → (zs.take n).getD k 0 = zs.getD k 0 := fun k hk => getD_take zs n k hk
    refine ⟨zs.take n, by simp; omega, hl, fun e => by (cases e), fun a' e k hk => ?_, .inr ⟨_, hx.1⟩, fun k hk => ?_⟩
    · injection e with e
      subst e
      rw [hcell k (by omega), hg k hk]
    · rw [hg k hk, List.getD_eq_getElem?_getD, List.getElem?_eq_getElem (by omega)]
      exact hwf _ (List.getElem_mem _)
theorem lt_of_cell {W : World} {a : Addr} {v : Value} (h : W.cell? a = some v) : a.block < W.heap.size := World.block_lt_of_cell? W a h
theorem view_has {κ : IntKind} {W : World} {A : Option Addr} {l : List Int} {n : Nat} (hl : l.length = n) (h : ∀ a, A = some a → ∀ k, k < n → W.cell? (a.add k) = some (.int κ (l.getD k 0))) (hA : A = none → n = 0) : Has κ W W.heap.size A l := by
  intro k hk
  rcases A with _ | a
  · have := hA rfl; omega
  · have hc := h a rfl k (by omega)
    exact ⟨a, rfl, by have := lt_of_cell hc; rwa [add_block] at this, hc⟩
theorem view_fit {l : List Int} {n : Nat} (hl : l.length = n) (h : ∀ k, k < n → (Lit.int .u8 (l.getD k 0)).wf = true) : Fit 8 l := fun i hi => by
  have := h i (by omega)
  generalize l.getD i 0 = x at this
  simp [Lit.wf, IntKind.min, IntKind.max, IntKind.signed, IntKind.bits] at this
  omega

theorem Tryd.et : Tryd.prog.globalNamed "errors.errorType" = some 0 := by kernel_rfl
theorem Tryd.rt : (Tryd.prog.cutTypes.find? (·.1 == "internal/reflectlite.rtype")).map (·.2) = some 112 := by kernel_rfl
theorem byte_wf {n : Int} (h : (Lit.int .u8 n).wf = true) : 0 ≤ n ∧ n < 256 := by
  simp [Lit.wf, IntKind.min, IntKind.max, IntKind.signed, IntKind.bits] at h
  omega
theorem Tryd.oneRow : ((List.range 161).filter fun t => Tryd.prog.rowNamed t [101, 114, 114, 111, 114]) = [28] := by kernel_rfl
theorem Tryd.tsize : Tryd.prog.types.size = 161 := by kernel_rfl
def laidR : List (String × DataW Unit) := [("errors.errorType", Rows.laid_errors_errorType)]
/-- what the listed variable gives the walks: its one cell -/
theorem han_of {W : World} (h : laidMetH Tryd.prog laidR W) : Han W := by
  have h' : laidMet Tryd.prog [] W ∧ handlesMet Tryd.prog laidR W := h
  obtain ⟨name, u, ty, e1, e2, e3, e4, e5⟩ := h'.2 _ (List.mem_singleton.2 rfl)
  have en : name = [101, 114, 114, 111, 114] := (Option.some.inj e1).symm
  subst en
  obtain rfl := Option.some.inj (Tryd.rt.symm.trans e2)
  have hm : ty ∈ (List.range 161).filter fun t => Tryd.prog.rowNamed t [101, 114, 114, 111, 114] := List.mem_filter.2 ⟨List.mem_range.2 (by rw [← Tryd.tsize]; exact e3), e4⟩
  rw [Tryd.oneRow] at hm
  obtain rfl := List.mem_singleton.1 hm
  have hh : typeHandle Tryd.prog 28 = .pointer (some ⟨1, 28, none⟩) := by kernel_rfl
  rw [hh] at e5
  unfold Han
  simpa using World.var?_cell Tryd.et e5 0
/-- a world that meets the condition: the settled one, the variable's cell laid -/
noncomputable def laidWorld (os : Os) : World :=
  let w0 := World.holding Tryd.prog os ⟨#[], #[], []⟩
  { w0 with heap := w0.heap.modify 0 fun
      | .cells _ t frozen => .cells #[.iface 112 (.agg #[.pointer (some ⟨1, 28, none⟩)])] t frozen
      | o => o }
theorem laidWorld_met (os : Os) (args : Array Value) : laidMetH Tryd.prog laidR ((laidWorld os).forCall (fun _ _ => 0) ⟨#[], args, []⟩).memory :=
  laidMetH_of_parts (laidMet_nil _ _) (by kernel_rfl)

theorem int_wf {n : Int} (h : (Lit.int .i64 n).wf = true) : I64 n := by
  unfold I64
  simp [Lit.wf, IntKind.min, IntKind.max, IntKind.signed, IntKind.bits] at h
  omega
theorem Tryd.cells9 : Tryd.prog.cellsOf 9 = 1 := by kernel_rfl
theorem Tryd.cellsB : Tryd.prog.cellsOf 22 = 1 := by kernel_rfl
theorem Tryd.cellsAsk : Tryd.prog.cellsOf 24 = 14 := by kernel_rfl
/-- bytes in a field -/
theorem viewB {H : Type} {enc : TypeId × Value → H} {W : World} {fuel : Nat} {cs : List Value} {x : DataW H × List MemPlace}
    (h : DataW.trod enc Tryd.prog W 0 (fun _ => true) true fuel 22 cs = some x) :
    ∃ (A : Option Addr) (c : Nat) (l : List Int), cs = [.slice A l.length c] ∧ l.length ≤ c ∧ (A = none → l.length = 0 ∧ c = 0) ∧ Has .u8 W W.heap.size A l ∧ Fit 8 l := by
  rcases open_ints Tryd.underlying22 Tryd.underlying5 Tryd.cells5 h with ⟨hcs, _⟩ | ⟨a, n, c, zs, hcs, _, hl, _, hz, _, hcell, hwf⟩
  · exact ⟨none, 0, [], hcs, Nat.le_refl _, fun _ => ⟨rfl, rfl⟩, Has.nil _ _ _ _, fun i hi => by cases hi⟩
  · simp only [if_true] at hz
    have hn : (zs.take n).length = n := by rw [List.length_take]; omega
    refine ⟨some a, c, zs.take n, by rw [hn]; exact hcs, by omega, (fun e => by cases e), fun k hk => ?_, fun k hk => ?_⟩
    · rw [hn] at hk
      have hc := hcell k (by omega)
      exact ⟨a, rfl, by have := lt_of_cell hc; rwa [add_block] at this, by rw [getD_take zs n k hk]; exact hc⟩
    · rw [hn] at hk
      rw [getD_take zs n k hk, List.getD_eq_getElem?_getD, List.getElem?_eq_getElem (by omega)]
      have hw := hwf _ (List.getElem_mem (h := (show k < zs.length by omega)))
      simp only [Option.getD_some]
      generalize zs[k] = y at hw
      simp [Lit.wf, IntKind.min, IntKind.max, IntKind.signed, IntKind.bits] at hw
      omega
/-- a request that is handed in -/
theorem viewAsk {H : Type} {enc : TypeId × Value → H} {W : World} {fuel : Nat} {V : Array Value} {x : DataW H × List MemPlace}
    (h : DataW.trod enc Tryd.prog W 0 (fun _ => true) true fuel 24 V.toList = some x) :
    ∃ (a : AskV) (A1 : Option Addr) (c1 : Nat) (A2 : Option Addr) (c2 : Nat), V = askVals a A1 c1 A2 c2 ∧ AskIn W W.heap.size a A1 c1 A2 c2 ∧ WideA a := by
  obtain ⟨xs, k, _, _, hcl, hxl, hf⟩ := DataW.trod_struct Tryd.underlying24 h
  rw [Tryd.cellsAsk] at hcl
  have hs : V.size = 14 := by simpa using hcl
  have f0 : DataW.trod enc Tryd.prog W 0 (fun _ => true) true k 3 ((V.toList.drop 0).take (Tryd.prog.cellsOf 3)) = xs[0]? := hf 0 _ rfl
  rw [show Tryd.prog.cellsOf 3 = 1 from Tryd.cells3, List.getElem?_eq_getElem (by rw [hxl]; decide)] at f0
  obtain ⟨z0, e0, _, wf0⟩ := DataW.trod_int Tryd.underlying3 f0
  have f1 : DataW.trod enc Tryd.prog W 0 (fun _ => true) true k 3 ((V.toList.drop 1).take (Tryd.prog.cellsOf 3)) = xs[1]? := hf 1 _ rfl
  rw [show Tryd.prog.cellsOf 3 = 1 from Tryd.cells3, List.getElem?_eq_getElem (by rw [hxl]; decide)] at f1
  obtain ⟨z1, e1, _, wf1⟩ := DataW.trod_int Tryd.underlying3 f1
  have f2 : DataW.trod enc Tryd.prog W 0 (fun _ => true) true k 3 ((V.toList.drop 2).take (Tryd.prog.cellsOf 3)) = xs[2]? := hf 2 _ rfl
  rw [show Tryd.prog.cellsOf 3 = 1 from Tryd.cells3, List.getElem?_eq_getElem (by rw [hxl]; decide)] at f2
  obtain ⟨z2, e2, _, wf2⟩ := DataW.trod_int Tryd.underlying3 f2
  have f3 : DataW.trod enc Tryd.prog W 0 (fun _ => true) true k 3 ((V.toList.drop 3).take (Tryd.prog.cellsOf 3)) = xs[3]? := hf 3 _ rfl
  rw [show Tryd.prog.cellsOf 3 = 1 from Tryd.cells3, List.getElem?_eq_getElem (by rw [hxl]; decide)] at f3
  obtain ⟨z3, e3, _, wf3⟩ := DataW.trod_int Tryd.underlying3 f3
  have f4 : DataW.trod enc Tryd.prog W 0 (fun _ => true) true k 3 ((V.toList.drop 4).take (Tryd.prog.cellsOf 3)) = xs[4]? := hf 4 _ rfl
  rw [show Tryd.prog.cellsOf 3 = 1 from Tryd.cells3, List.getElem?_eq_getElem (by rw [hxl]; decide)] at f4
  obtain ⟨z4, e4, _, wf4⟩ := DataW.trod_int Tryd.underlying3 f4
  have f5 : DataW.trod enc Tryd.prog W 0 (fun _ => true) true k 3 ((V.toList.drop 5).take (Tryd.prog.cellsOf 3)) = xs[5]? := hf 5 _ rfl
  rw [show Tryd.prog.cellsOf 3 = 1 from Tryd.cells3, List.getElem?_eq_getElem (by rw [hxl]; decide)] at f5
  obtain ⟨z5, e5, _, wf5⟩ := DataW.trod_int Tryd.underlying3 f5
  have f6 : DataW.trod enc Tryd.prog W 0 (fun _ => true) true k 3 ((V.toList.drop 6).take (Tryd.prog.cellsOf 3)) = xs[6]? := hf 6 _ rfl
  rw [show Tryd.prog.cellsOf 3 = 1 from Tryd.cells3, List.getElem?_eq_getElem (by rw [hxl]; decide)] at f6
  obtain ⟨z6, e6, _, wf6⟩ := DataW.trod_int Tryd.underlying3 f6
  have f7 : DataW.trod enc Tryd.prog W 0 (fun _ => true) true k 3 ((V.toList.drop 7).take (Tryd.prog.cellsOf 3)) = xs[7]? := hf 7 _ rfl
  rw [show Tryd.prog.cellsOf 3 = 1 from Tryd.cells3, List.getElem?_eq_getElem (by rw [hxl]; decide)] at f7
  obtain ⟨z7, e7, _, wf7⟩ := DataW.trod_int Tryd.underlying3 f7
  have f8 : DataW.trod enc Tryd.prog W 0 (fun _ => true) true k 3 ((V.toList.drop 8).take (Tryd.prog.cellsOf 3)) = xs[8]? := hf 8 _ rfl
  rw [show Tryd.prog.cellsOf 3 = 1 from Tryd.cells3, List.getElem?_eq_getElem (by rw [hxl]; decide)] at f8
  obtain ⟨z8, e8, _, wf8⟩ := DataW.trod_int Tryd.underlying3 f8
  have f9 : DataW.trod enc Tryd.prog W 0 (fun _ => true) true k 3 ((V.toList.drop 9).take (Tryd.prog.cellsOf 3)) = xs[9]? := hf 9 _ rfl
  rw [show Tryd.prog.cellsOf 3 = 1 from Tryd.cells3, List.getElem?_eq_getElem (by rw [hxl]; decide)] at f9
  obtain ⟨z9, e9, _, wf9⟩ := DataW.trod_int Tryd.underlying3 f9
  have f10 : DataW.trod enc Tryd.prog W 0 (fun _ => true) true k 3 ((V.toList.drop 10).take (Tryd.prog.cellsOf 3)) = xs[10]? := hf 10 _ rfl
  rw [show Tryd.prog.cellsOf 3 = 1 from Tryd.cells3, List.getElem?_eq_getElem (by rw [hxl]; decide)] at f10
  obtain ⟨z10, e10, _, wf10⟩ := DataW.trod_int Tryd.underlying3 f10
  have f11 : DataW.trod enc Tryd.prog W 0 (fun _ => true) true k 9 ((V.toList.drop 11).take (Tryd.prog.cellsOf 9)) = xs[11]? := hf 11 _ rfl
  rw [show Tryd.prog.cellsOf 9 = 1 from Tryd.cells9, List.getElem?_eq_getElem (by rw [hxl]; decide)] at f11
  obtain ⟨s, e11, _, _⟩ := DataW.trod_string Tryd.underlying9 f11
  have f12 : DataW.trod enc Tryd.prog W 0 (fun _ => true) true k 22 ((V.toList.drop 12).take (Tryd.prog.cellsOf 22)) = xs[12]? := hf 12 _ rfl
  rw [show Tryd.prog.cellsOf 22 = 1 from Tryd.cellsB, List.getElem?_eq_getElem (by rw [hxl]; decide)] at f12
  obtain ⟨B12, k12, l12, e12, m12, n12, h12, w12⟩ := viewB f12
  have f13 : DataW.trod enc Tryd.prog W 0 (fun _ => true) true k 22 ((V.toList.drop 13).take (Tryd.prog.cellsOf 22)) = xs[13]? := hf 13 _ rfl
  rw [show Tryd.prog.cellsOf 22 = 1 from Tryd.cellsB, List.getElem?_eq_getElem (by rw [hxl]; decide)] at f13
  obtain ⟨B13, k13, l13, e13, m13, n13, h13, w13⟩ := viewB f13
  obtain ⟨v0, v1, v2, v3, v4, v5, v6, v7, v8, v9, v10, v11, v12, v13, rfl⟩ := fourteen hs
  have q0 : [v0] = _ := e0
  injection q0 with q0 _
  subst q0
  have q1 : [v1] = _ := e1
  injection q1 with q1 _
  subst q1
  have q2 : [v2] = _ := e2
  injection q2 with q2 _
  subst q2
  have q3 : [v3] = _ := e3
  injection q3 with q3 _
  subst q3
  have q4 : [v4] = _ := e4
  injection q4 with q4 _
  subst q4
  have q5 : [v5] = _ := e5
  injection q5 with q5 _
  subst q5
  have q6 : [v6] = _ := e6
  injection q6 with q6 _
  subst q6
  have q7 : [v7] = _ := e7
  injection q7 with q7 _
  subst q7
  have q8 : [v8] = _ := e8
  injection q8 with q8 _
  subst q8
  have q9 : [v9] = _ := e9
  injection q9 with q9 _
  subst q9
  have q10 : [v10] = _ := e10
  injection q10 with q10 _
  subst q10
  have q11 : [v11] = _ := e11
  injection q11 with q11 _
  subst q11
  have q12 : [v12] = _ := e12
  injection q12 with q12 _
  subst q12
  have q13 : [v13] = _ := e13
  injection q13 with q13 _
  subst q13
  refine ⟨⟨z0, z1, z2, z3, z4, z5, z6, z7, z8, z9, z10, s, l12, l13⟩, B12, k12, B13, k13, rfl, ⟨h12, h13, n12, n13, m12, m13⟩, ?_, w12, w13⟩
  intro y hy
  have hy' : y ∈ [z0, z1, z2, z3, z4, z5, z6, z7, z8, z9, z10] := hy
  simp only [List.mem_cons, List.not_mem_nil, or_false] at hy'
  rcases hy' with rfl | rfl | rfl | rfl | rfl | rfl | rfl | rfl | rfl | rfl | rfl
  · exact int_wf wf0
  · exact int_wf wf1
  · exact int_wf wf2
  · exact int_wf wf3
  · exact int_wf wf4
  · exact int_wf wf5
  · exact int_wf wf6
  · exact int_wf wf7
  · exact int_wf wf8
  · exact int_wf wf9
  · exact int_wf wf10
end Go.Proofs.YtidpihpddkfhgaaDoor
