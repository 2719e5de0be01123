/- The row's step for lists: what a list that is handed in reads as, and where it lies. -/
import Derived.Test.YtjpmglnhnfnmnaaDoorRows
import Derived.Test.YtjpmglnhnfnmnaaDoorTi
import Derived.ChangeMaps5
import Derived.Deep.Slices
import Derived.ChangeArms
import Derived.WalkKit
import Derived.ProofKit
import Derived.OpenShut
import Derived.SizedLaws
import Derived.LaidLaws
import Derived.LaidHandle
import Derived.LaidMore
import Derived.Stop.Joined
import Derived.ChangeSame
import Derived.ChangeVars
import Derived.JoinedOf
namespace Go.Proofs.YtjpmglnhnfnmnaaDoor
open Go.ChangeShapes Go.WideShapes Go.ChangeAt Go.RowKit Slices

set_option maxRecDepth 100000
theorem Tryd.own : ownKnob Tryd.prog.godebug = none := by kernel_rfl
theorem Tryd.laidOut : laidOutB Tryd.prog = true := by kernel_rfl
theorem Tryd.cells3 : Tryd.prog.cellsOf 3 = 1 := by kernel_rfl
theorem Tryd.bytes3 : Tryd.prog.bytesOf 3 = 8 := by kernel_rfl

/-- a list of integers that is handed in: what it reads as, where it lies -/
theorem view {H : Type} {enc : TypeId × Value → H} {W : World} {fuel : Nat} {A : Option Addr} {n c : Nat} {d : DataW H} {p : List MemPlace} {t e : TypeId} {κ : IntKind}
    (ht : Tryd.prog.underlying t = some (.slice e)) (he : Tryd.prog.underlying e = some (.int κ)) (hc : Tryd.prog.cellsOf e = 1)
    (h : DataW.trod enc Tryd.prog W 0 (fun _ => true) true fuel t (Value.slice A n c).cells.toList = some (d, p)) :
    ∃ l : List Int, l.length = n ∧ n ≤ c ∧ (A = none → n = 0 ∧ c = 0) ∧ (∀ a, A = some a → ∀ k, k < n → W.cell? (a.add k) = some (.int κ (l.getD k 0))) ∧ (d = .nil ∧ n = 0 ∨ ∃ sp, d = .slice (lits κ l) sp) ∧ (∀ k, k < n → (Lit.int κ (l.getD k 0)).wf = true) := by
  rcases open_ints ht he hc h with ⟨hcs, hx⟩ | ⟨a, n', c', zs, hcs, _, hl, _, hz, hx, hcell, hwf⟩
  · simp [Value.cells] at hcs
    obtain ⟨rfl, rfl, rfl⟩ := hcs
    simp only [Prod.mk.injEq] at hx
    exact ⟨[], rfl, Nat.le_refl _, fun _ => ⟨rfl, rfl⟩, fun a e => by (cases e), .inl ⟨hx.1, rfl⟩, fun k hk => by cases hk⟩
  · simp [Value.cells] at hcs
    obtain ⟨rfl, rfl, rfl⟩ := hcs
    simp only [Prod.mk.injEq] at hx
    simp only [if_true] at hz
    have hg : ∀ k, k < n → (zs.take n).getD k 0 = zs.getD k 0 := fun k hk => getD_take zs n k hk
    refine ⟨zs.take n, by simp; omega, hl, fun e => by (cases e), fun a' e k hk => ?_, .inr ⟨_, hx.1⟩, fun k hk => ?_⟩
    · injection e with e
      subst e
      rw [hcell k (by omega), hg k hk]
    · rw [hg k hk, List.getD_eq_getElem?_getD, List.getElem?_eq_getElem (by omega)]
      exact hwf _ (List.getElem_mem _)
theorem lt_of_cell {W : World} {a : Addr} {v : Value} (h : W.cell? a = some v) : a.block < W.heap.size := World.block_lt_of_cell? W a h
theorem view_has {κ : IntKind} {W : World} {A : Option Addr} {l : List Int} {n : Nat} (hl : l.length = n) (h : ∀ a, A = some a → ∀ k, k < n → W.cell? (a.add k) = some (.int κ (l.getD k 0))) (hA : A = none → n = 0) : Has κ W W.heap.size A l := by
  intro k hk
  rcases A with _ | a
  · have := hA rfl; omega
  · have hc := h a rfl k (by omega)
    exact ⟨a, rfl, by have := lt_of_cell hc; rwa [add_block] at this, hc⟩
theorem Tryd.et : Tryd.prog.globalNamed "errors.errorType" = some 0 := by kernel_rfl
theorem Tryd.rt : (Tryd.prog.cutTypes.find? (·.1 == "internal/reflectlite.rtype")).map (·.2) = some 89 := by kernel_rfl
theorem int_wf {n : Int} (h : (Lit.int .i64 n).wf = true) : I64 n := by
  unfold I64
  simp [Lit.wf, IntKind.min, IntKind.max, IntKind.signed, IntKind.bits] at h
  omega
theorem Tryd.oneRow : ((List.range 135).filter fun t => Tryd.prog.rowNamed t [101, 114, 114, 111, 114]) = [26] := by kernel_rfl
theorem Tryd.tsize : Tryd.prog.types.size = 135 := by kernel_rfl
def laidR : List (String × DataW Unit) := [("errors.errorType", Rows.laid_errors_errorType)]
/-- what the listed variable gives the walks: its one cell -/
theorem han_of {W : World} (h : laidMetH Tryd.prog laidR W) : Han W := by
  have h' : laidMet Tryd.prog [] W ∧ handlesMet Tryd.prog laidR W := h
  obtain ⟨name, u, ty, e1, e2, e3, e4, e5⟩ := h'.2 _ (List.mem_singleton.2 rfl)
  have en : name = [101, 114, 114, 111, 114] := (Option.some.inj e1).symm
  subst en
  obtain rfl := Option.some.inj (Tryd.rt.symm.trans e2)
  have hm : ty ∈ (List.range 135).filter fun t => Tryd.prog.rowNamed t [101, 114, 114, 111, 114] := List.mem_filter.2 ⟨List.mem_range.2 (by rw [← Tryd.tsize]; exact e3), e4⟩
  rw [Tryd.oneRow] at hm
  obtain rfl := List.mem_singleton.1 hm
  have hh : typeHandle Tryd.prog 26 = .pointer (some ⟨1, 26, none⟩) := by kernel_rfl
  rw [hh] at e5
  unfold Han
  simpa using World.var?_cell Tryd.et e5 0
/-- a world that meets the condition: the settled one, the variable's cell laid -/
noncomputable def laidWorld (os : Os) : World :=
  let w0 := World.holding Tryd.prog os ⟨#[], #[], []⟩
  { w0 with heap := w0.heap.modify 0 fun
      | .cells _ t frozen => .cells #[.iface 89 (.agg #[.pointer (some ⟨1, 26, none⟩)])] t frozen
      | o => o }
theorem laidWorld_met (os : Os) (args : Array Value) : laidMetH Tryd.prog laidR ((laidWorld os).forCall (fun _ _ => 0) ⟨#[], args, []⟩).memory :=
  laidMetH_of_parts (laidMet_nil _ _) (by kernel_rfl)

theorem Tryd.cellsTen : Tryd.prog.cellsOf 46 = 3 := by kernel_rfl
theorem Tryd.bytesTen : Tryd.prog.bytesOf 46 = 32 := by kernel_rfl
theorem Tryd.cells9 : Tryd.prog.cellsOf 9 = 1 := by kernel_rfl
theorem Tryd.bytes9 : Tryd.prog.bytesOf 9 = 16 := by kernel_rfl
/-- a list of tenants that is handed in -/
theorem viewT {H : Type} {enc : TypeId × Value → H} {W : World} {fuel : Nat} {A : Option Addr} {n c : Nat} {d : DataW H} {p : List MemPlace}
    (h : DataW.trod enc Tryd.prog W 0 (fun _ => true) true fuel 22 (Value.slice A n c).cells.toList = some (d, p)) :
    ∃ l : List Ten, n = l.length ∧ n ≤ c ∧ (A = none → n = 0 ∧ c = 0) ∧ HasT W W.heap.size A l ∧ (∀ k, k < n → I64 (tg l k).id ∧ I64 (tg l k).par) ∧ (d = .nil ∧ n = 0 ∨ ∃ ds sp, d = .slice ds sp ∧ ds.length = n) := by
  rcases Go.Deep.open_slice Tryd.underlying22 h with ⟨hcs, hx⟩ | ⟨a, len, cap, m, n', D, Pl, hcs, _, hl, _, hm, hx, hr⟩
  · simp [Value.cells] at hcs
    obtain ⟨rfl, rfl, rfl⟩ := hcs
    simp only [Prod.mk.injEq] at hx
    exact ⟨[], rfl, Nat.le_refl _, fun _ => ⟨rfl, rfl⟩, fun j u hu => by simp [cellsT] at hu, fun k hk => by (cases hk), .inl ⟨hx.1, rfl⟩⟩
  · simp [Value.cells] at hcs
    obtain ⟨rfl, rfl, rfl⟩ := hcs
    simp only [Prod.mk.injEq] at hx
    have hm' : m = c := by simpa using hm
    have one : ∀ i, ∃ t : Ten, i < n → W.cell? (a.add (i * 3 + 0)) = some (.int .i64 t.id) ∧ W.cell? (a.add (i * 3 + 1)) = some (.int .i64 t.par) ∧ W.cell? (a.add (i * 3 + 2)) = some (.string t.nm) ∧ I64 t.id ∧ I64 t.par := fun i => by
      by_cases hi : i < n
      · obtain ⟨cs, hc, ht⟩ := hr i (by omega)
        rw [Tryd.cellsTen] at hc
        obtain ⟨xs, k, _, _, hcl, hxl, hf⟩ := DataW.trod_struct Tryd.underlying46 ht
        rw [Tryd.cellsTen] at hcl
        obtain ⟨_, _, hat⟩ := World.cells?_some hc
        have at_ : ∀ (j : Nat) (v : Value), j < 3 → (cs.drop j).take 1 = [v] → W.cell? (a.add (i * 3 + j)) = some v := fun j v h4 hz => by
          have h8 : j < cs.length := by omega
          rw [List.drop_eq_getElem_cons h8, List.take_succ_cons, List.take_zero] at hz
          injection hz with hz _
          rw [← add_add3, hat j h4, List.getElem?_eq_getElem h8, hz]
        have f0 : DataW.trod enc Tryd.prog W 0 (fun _ => true) true k 3 ((cs.drop 0).take (Tryd.prog.cellsOf 3)) = xs[0]? := hf 0 _ rfl
        have f1 : DataW.trod enc Tryd.prog W 0 (fun _ => true) true k 3 ((cs.drop 1).take (Tryd.prog.cellsOf 3)) = xs[1]? := hf 1 _ rfl
        have f2 : DataW.trod enc Tryd.prog W 0 (fun _ => true) true k 9 ((cs.drop 2).take (Tryd.prog.cellsOf 9)) = xs[2]? := hf 2 _ rfl
        rw [List.getElem?_eq_getElem (by rw [hxl]; decide)] at f0 f1 f2
        rw [show Tryd.prog.cellsOf 3 = 1 from Tryd.cells3] at f0 f1
        rw [show Tryd.prog.cellsOf 9 = 1 from Tryd.cells9] at f2
        obtain ⟨z0, e0, _, w0⟩ := DataW.trod_int Tryd.underlying3 f0
        obtain ⟨z1, e1, _, w1⟩ := DataW.trod_int Tryd.underlying3 f1
        obtain ⟨z2, e2, _, _⟩ := DataW.trod_string Tryd.underlying9 f2
        exact ⟨⟨z0, z1, z2⟩, fun _ => ⟨at_ 0 _ (by omega) e0, at_ 1 _ (by omega) e1, at_ 2 _ (by omega) e2, int_wf w0, int_wf w1⟩⟩
      · exact ⟨ten0, fun h => absurd h hi⟩
    obtain ⟨f, hf⟩ := Classical.axiomOfChoice one
    have hlen : ((List.range n).map f).length = n := by simp
    have ht : ∀ k, k < n → tg ((List.range n).map f) k = f k := fun k hk => by
      unfold tg
      rw [List.getD_eq_getElem?_getD, List.getElem?_eq_getElem (by rw [hlen]; exact hk)]
      simp
    refine ⟨(List.range n).map f, hlen.symm, hl, fun e => by (cases e), fun j u hu => ?_, fun k hk => ?_, .inr ⟨_, _, hx.1, by simp⟩⟩
    · have hj : j < (cellsT ((List.range n).map f)).length := (List.getElem?_eq_some_iff.mp hu).1
      rw [cellsT_len, hlen] at hj
      obtain ⟨k, r, hk, hr3, rfl⟩ : ∃ k r, k < n ∧ r < 3 ∧ j = k * 3 + r := ⟨j / 3, j % 3, by omega, Nat.mod_lt _ (by decide), by omega⟩
      rw [cellsT_get _ k r (by rw [hlen]; exact hk) hr3, ht k hk] at hu
      obtain ⟨q0, q1, q2, _⟩ := hf k hk
      have hb : a.block < W.heap.size := by have := lt_of_cell q0; rwa [add_block] at this
      refine ⟨a, rfl, hb, ?_⟩
      have hr' : r = 0 ∨ r = 1 ∨ r = 2 := by omega
      rcases hr' with rfl | rfl | rfl
      · rw [q0]; exact hu
      · rw [q1]; exact hu
      · rw [q2]; exact hu
    · rw [ht k hk]
      exact (hf k hk).2.2.2
/-- a list of texts that is handed in -/
theorem viewS {H : Type} {enc : TypeId × Value → H} {W : World} {fuel : Nat} {A : Option Addr} {n c : Nat} {d : DataW H} {p : List MemPlace}
    (h : DataW.trod enc Tryd.prog W 0 (fun _ => true) true fuel 40 (Value.slice A n c).cells.toList = some (d, p)) :
    ∃ ss : List ByteArray, n = ss.length ∧ HasS W W.heap.size A ss ∧ (d = .nil ∧ n = 0 ∨ ∃ ds sp, d = .slice ds sp ∧ ds.length = n) := by
  rcases Go.Deep.open_slice1 Tryd.underlying40 Tryd.cells9 h with ⟨hcs, hx⟩ | ⟨a, len, cap, m, n', V, D, Pl, hcs, _, hl, _, hm, hx, hr⟩
  · simp [Value.cells] at hcs
    obtain ⟨rfl, rfl, rfl⟩ := hcs
    simp only [Prod.mk.injEq] at hx
    exact ⟨[], rfl, fun k hk => by (cases hk), .inl ⟨hx.1, rfl⟩⟩
  · simp [Value.cells] at hcs
    obtain ⟨rfl, rfl, rfl⟩ := hcs
    simp only [Prod.mk.injEq] at hx
    have hm' : m = c := by simpa using hm
    have one : ∀ i, ∃ t : ByteArray, i < n → W.cell? (a.add i) = some (.string t) := fun i => by
      by_cases hi : i < n
      · obtain ⟨hc, ht⟩ := hr i (by omega)
        obtain ⟨s, hs, _, _⟩ := DataW.trod_string Tryd.underlying9 ht
        injection hs with hs _
        exact ⟨s, fun _ => by rw [hc, hs]⟩
      · exact ⟨ByteArray.empty, fun h => absurd h hi⟩
    obtain ⟨f, hf⟩ := Classical.axiomOfChoice one
    have hlen : ((List.range n).map f).length = n := by simp
    refine ⟨(List.range n).map f, hlen.symm, fun k hk => ?_, .inr ⟨_, _, hx.1, by simp⟩⟩
    rw [hlen] at hk
    have q := hf k hk
    refine ⟨a, rfl, by have := lt_of_cell q; rwa [add_block] at this, ?_⟩
    rw [q, List.getD_eq_getElem?_getD, List.getElem?_eq_getElem (by rw [hlen]; exact hk)]
    simp
end Go.Proofs.YtjpmglnhnfnmnaaDoor
