/- Contract: bytes that are read as a request, by the document's own code. -/
import Derived.Test.YtidpihpddkfhgaaDoorAg
namespace Go.Proofs.YtidpihpddkfhgaaDoor
open Go.RowKit Slices Go.Proofs.YtidpihpddkfhgaaDoor.Bit

/-- a request that may be is read of its body -/
theorem may_takes {b : AskV} (h : MayA b) : takeA (List.replicate 11 (0, 1099511627776)) 300 2000 100 (some (laidA b)) = (b, some []) := by
  have hs := may_small h
  have hn := may_nums h
  obtain ⟨h1, h2, h3, h4, h5, h6, h7, h8, h9, h10, h11, k0, k1, k2⟩ := h
  refine takeA_laid rfl (fun i hi => ?_) hn hs.1 hs.2.1 hs.2.2 (by omega) (by omega) (by omega)
  unfold Clk at *
  have hb : (List.replicate 11 ((0 : Int), (1099511627776 : Int))).getD i (0, 0) = (0, 1099511627776) := by
    rw [List.getD_eq_getElem?_getD, List.getElem?_replicate, if_pos hi]; rfl
  rw [hb]
  have hq : ∀ x ∈ numsA b, 0 ≤ x ∧ x ≤ 1099511627776 := by
    intro x hx
    unfold numsA at hx
    simp only [List.mem_cons, List.not_mem_nil, or_false] at hx
    rcases hx with rfl | rfl | rfl | rfl | rfl | rfl | rfl | rfl | rfl | rfl | rfl <;> omega
  have hl : i < (numsA b).length := hi
  rw [List.getD_eq_getElem?_getD, List.getElem?_eq_getElem hl]
  exact hq _ (List.getElem_mem _)
theorem load_row_on {P : Program} {ops : Array Oper} {rest : List Oper} {o : Oper} {a : Act} {w : World} {Q : Exit → Act → World → Prop} (hw : Region.wanted o (yielded ops a.tmps) = true) (ty : TypeId) (x : Operand) (ho : o.op = .load ty x)
    (g : Nat) (hx : a.eval x = .pointer (some ⟨g, 0, none⟩)) (t : TypeId) (cs : Array Value) (fr : Nat × Nat) (d : TypeDesc) (hg : w.heap[g]? = some (.cells cs t fr))
    (hu : P.underlying ty = some d) (hd : (match d with | .struct _ | .array _ _ => true | _ => false) = true) (hi : (P.info? ty).map (·.size) = some cs.size)
    (h : wpList P ops Q rest (a.put o.dst (.agg cs)) w) : wpList P ops Q (o :: rest) a w := by
  refine wpList_step fun K hK => ?_
  rw [if_pos hw]
  exact wp_load_row ty x ho g hx t cs fr d hg hu hd hi (hK _ _ h)
theorem step_load_row {P : Program} {ops : Array Oper} {o : Oper} {a : Act} {w : World} {K : Act → World → Prop} {Q : Exit → Act → World → Prop} {E : Prop} (hgd : o.guard = none) (ty : TypeId) (x : Operand) (ho : o.op = .load ty x)
    (g : Nat) (hx : a.eval x = .pointer (some ⟨g, 0, none⟩)) (t : TypeId) (cs : Array Value) (fr : Nat × Nat) (d : TypeDesc) (hg : w.heap[g]? = some (.cells cs t fr))
    (hu : P.underlying ty = some d) (hd : (match d with | .struct _ | .array _ _ => true | _ => false) = true) (hi : (P.info? ty).map (·.size) = some cs.size)
    (h : K (a.put o.dst (.agg cs)) w) : if Region.wanted o (yielded ops a.tmps) = true then Oper.wp P o a w K Q else E := by
  have hw : Region.wanted o (yielded ops a.tmps) = true := by simp [Region.wanted, hgd]
  rw [if_pos hw]
  exact wp_load_row ty x ho g hx t cs fr d hg hu hd hi h
theorem step_store_row {P : Program} {ops : Array Oper} {o : Oper} {a : Act} {w : World} {K : Act → World → Prop} {Q : Exit → Act → World → Prop} {E : Prop} (hgd : o.guard = none) (ty : TypeId) (x y : Operand) (ho : o.op = .store ty x y)
    (g : Nat) (cells : Array Value) (hx : a.eval x = .pointer (some ⟨g, 0, none⟩)) (hy : a.eval y = .agg cells)
    (t : TypeId) (old : Array Value) (hg : w.heap[g]? = some (.cells old t (0, 0))) (hi : (P.info? ty).map (·.size) = some cells.size)
    (hold : old.size = cells.size) (h1 : cells.all (·.oneCell') = true)
    (h : K (a.put o.dst undef) (w.setRow g cells)) : if Region.wanted o (yielded ops a.tmps) = true then Oper.wp P o a w K Q else E := by
  have hw : Region.wanted o (yielded ops a.tmps) = true := by simp [Region.wanted, hgd]
  rw [if_pos hw]
  exact wp_store_row ty x y ho g cells hx hy t old hg hi hold h1 h
theorem below_setRow {B g : Nat} {a b : World} (h : Below B a b) (hg : B ≤ g) (cs : Array Value) : Below B a (b.setRow g cs) :=
  ⟨h.os, h.tape, h.output, by rw [size_setRow2]; exact h.size, fun k hk => (setRow_other _ _ _ _ (by omega)).trans (h.block k hk)⟩
/-- midway in the answer: what is kept of w7, the answer's own row apart -/
structure Kp (w w7 W : World) : Prop where
  same : ∀ i, i < w7.heap.size → i ≠ w.heap.size → W.heap[i]? = w7.heap[i]?
  res : ∃ Z : Array Value, Z.size = 14 ∧ W.heap[w.heap.size]? = some (.cells Z 24 (0, 0))
  size : w7.heap.size ≤ W.heap.size
  below : Below w.heap.size w W
theorem Kp.drew {w w7 W : World} (h : Kp w w7 W) : Kp w w7 W.drew := ⟨h.same, h.res, h.size, h.below.drew⟩
theorem Kp.grow {w w7 W W' : World} (h : Kp w w7 W) (hg : W.grownBy W' none) (h7 : w.heap.size < w7.heap.size) : Kp w w7 W' := by
  obtain ⟨Z, hz, hr⟩ := h.res
  have hs := h.size
  exact ⟨fun i hi hne => (hg.block i (by omega) (by simp)).trans (h.same i hi hne), ⟨Z, hz, (hg.block _ (by omega) (by simp)).trans hr⟩, Nat.le_trans hs hg.size, h.below.grown hg h.below.size (fun q hq => by cases hq)⟩
theorem Kp.put {w w7 W : World} (h : Kp w w7 W) {V : Array Value} (hv : V.size = 14) : Kp w w7 (W.setRow w.heap.size V) := by
  obtain ⟨Z, hz, hr⟩ := h.res
  exact ⟨fun i hi hne => (setRow_other _ _ _ _ hne).trans (h.same i hi hne), ⟨V, hv, setRow_heap _ _ _ _ _ _ hr⟩, by rw [size_setRow2]; exact h.size, below_setRow h.below (Nat.le_refl _) V⟩
theorem Kp.row {w w7 W : World} (h : Kp w w7 W) {i : Nat} {o : Obj} (h7 : w7.heap[i]? = some o) (hne : i ≠ w.heap.size) : W.heap[i]? = some o := (h.same i (Array.getElem?_eq_some_iff.1 h7).1 hne).trans h7
theorem Kp.has {w w7 W : World} (h : Kp w w7 W) (_h7 : Below w.heap.size w w7) {A : Option Addr} {l : List Int} (hh : Has .u8 w w.heap.size A l) : Has .u8 W W.heap.size A l := (hh.below h.below).mono h.below.size
theorem Kp.own {w w7 W : World} (h : Kp w w7 W) {n c : Nat} {A : Option Addr} {xs : List Value} (ho : w7.ownsRow w.heap.size 5 1 (.slice A n c) n xs) (hz : ∃ Z : Array Value, w7.heap[w.heap.size]? = some (.cells Z 24 (0, 0))) : W.ownsRow w.heap.size 5 1 (.slice A n c) n xs := by
  obtain ⟨Z, hz⟩ := hz
  have hne := own_ne_ask ho hz
  refine ⟨ho.1, ?_⟩
  rcases ho.2 with h' | ⟨q, c', cur, hv, hb, hq, hr⟩
  · exact .inl h'
  · refine .inr ⟨q, c', cur, hv, hb, h.row hq (fun e => ?_), hr⟩
    rcases hne with h1 | h1
    · rw [hv] at h1; cases h1
    · rw [hv, e] at h1; exact h1 rfl
theorem step_store_kp {P : Program} {ops : Array Oper} {o : Oper} {a : Act} {w w7 W : World} {K : Act → World → Prop} {Q : Exit → Act → World → Prop} {E : Prop} (hgd : o.guard = none) (ty : TypeId) (x y : Operand) (ho : o.op = .store ty x y)
    (cells : Array Value) (hx : a.eval x = .pointer (some ⟨w.heap.size, 0, none⟩)) (hy : a.eval y = .agg cells) (hi : (P.info? ty).map (·.size) = some cells.size) (h14 : cells.size = 14) (h1 : cells.all (·.oneCell') = true) (hk : Kp w w7 W)
    (h : K (a.put o.dst undef) (W.setRow w.heap.size cells)) : if Region.wanted o (yielded ops a.tmps) = true then Oper.wp P o a W K Q else E := by
  obtain ⟨Z, hz, hr⟩ := hk.res
  exact step_store_row hgd ty x y ho w.heap.size cells hx hy 24 Z hr hi (by rw [hz, h14]) h1 h
theorem results_cell4 {P : Program} {fn : Func} {p a b c : Tmp} {ty : TypeId} (h : fn.results = #[.cell p ty, .tmp a, .tmp b, .tmp c]) (tmps : Array Value) (w : World) (g : Nat) (t : TypeId) (cs : Array Value) (fr : Nat × Nat) (d : TypeDesc)
    (hp : tmps.getD p undef = .pointer (some ⟨g, 0, none⟩)) (hg : w.heap[g]? = some (.cells cs t fr))
    (hu : P.underlying ty = some d) (hd : (match d with | .struct _ | .array _ _ => true | _ => false) = true) (hi : (P.info? ty).map (·.size) = some cs.size) :
    (results fn tmps).run P w = .ok (.tuple #[.agg cs, tmps.getD a undef, tmps.getD b undef, tmps.getD c undef]) w := by
  have hp' : tmps[p]?.getD undef = .pointer (some ⟨g, 0, none⟩) := by simpa using hp
  simp only [results, h]
  simp [Result.andThen, hp', asAddr, run_loadVar_row w g t ty cs fr d hg hu hd hi]

/-- what is ahead of a signature, and the signature -/
def bodyOf (l : List Int) : List Int := l.take (l.length - 2420)
def sigOf (l : List Int) : List Int := l.drop (l.length - 2420)
/-- the request of no fields -/
def zeroA : AskV := ⟨0, 0, 0, 0, 0, 0, 0, 0, 0, 0, 0, ⟨#[]⟩, [], []⟩
/-- what is ahead of the signature is this request's body -/
def IsAsk (l : List Int) (a : AskV) : Prop := MayA a ∧ bodyOf l = laidA a
/-- what Read answers: a request, its body, the signature, a number -/
def ReadIs (l : List Int) (a : AskV) (x y : List Int) (k : Int) : Prop :=
  ((l.length < 2420 ∨ 6000 < l.length) ∧ a = zeroA ∧ x = [] ∧ y = [] ∧ k = 3) ∨
  (2420 ≤ l.length ∧ l.length ≤ 6000 ∧ (∀ b, ¬ IsAsk l b) ∧ a = zeroA ∧ x = [] ∧ y = [] ∧ k = 4) ∨
  (2420 ≤ l.length ∧ l.length ≤ 6000 ∧ IsAsk l a ∧ x = bodyOf l ∧ y = sigOf l ∧ k = 0)
/-- the same, where it lies -/
def ReadRef (l : List Int) (w : World) (e : Ending) (w' : World) : Prop :=
  ∃ a x y k A1 c1 A2 c2 X cx Y cy, ReadIs l a x y k ∧ e = .returned (.tuple #[.agg (askVals a A1 c1 A2 c2), .slice X x.length cx, .slice Y y.length cy, .int .i64 k]) ∧
    AskIn w' w'.heap.size a A1 c1 A2 c2 ∧ Has .u8 w' w'.heap.size X x ∧ Has .u8 w' w'.heap.size Y y ∧ Below w.heap.size w w'

/-- the number that the reader's end tells -/
def endO (s : Option (List Int)) : Int := match s with
  | none => 4
  | some l => if 0 < l.length then 4 else 0
theorem endO_four {s : Option (List Int)} (h : s ≠ some []) : endO s = 4 := by
  cases s with
  | none => rfl
  | some l =>
    cases l with
    | nil => exact absurd rfl h
    | cons x r => rfl
theorem refEndO (z0 g : Nat) (s : Option (List Int)) (w : World) (h : RdO z0 g s w) :
    Calls Tryd.prog 39 #[.pointer (some ⟨g, 0, none⟩)] w fun e w' => e = .returned (.int .i64 (endO s)) ∧ w = w' := by
  cases s with
  | none =>
    obtain ⟨l, h1, _⟩ := h
    refine (refEnd_rd z0 g l true w h1).mono ?_
    rintro e w' ⟨he, hw⟩
    exact ⟨by rw [he, if_pos (.inl rfl)]; rfl, hw⟩
  | some l =>
    refine (refEnd_rd z0 g l false w h.1).mono ?_
    rintro e w' ⟨he, hw⟩
    refine ⟨?_, hw⟩
    rw [he]
    unfold endO
    by_cases hl : 0 < l.length
    · simp only [hl]; simp
    · simp only [hl]; simp
/-- the values of no request -/
def zeroV : Array Value := #[.int .i64 0, .int .i64 0, .int .i64 0, .int .i64 0, .int .i64 0, .int .i64 0, .int .i64 0, .int .i64 0, .int .i64 0, .int .i64 0, .int .i64 0, .string { data := #[] }, .slice none 0 0, .slice none 0 0]
theorem grown_new_row (w : World) (cs : Array Value) (t : TypeId) (V : Array Value) : w.grownBy ((w.alloc (.cells cs t)).setRow w.heap.size V) none :=
  ⟨rfl, rfl, rfl, by rw [size_setRow2]; simp, fun i hi _ => (setRow_other _ _ _ _ (by omega)).trans ((below_new w _).block i hi)⟩
theorem own_none_row {W : World} {B m : Nat} {v : Value} {xs : List Value} (h : W.ownsRow B 5 1 v m xs) : v.ownBlock = none ∨ v.ownBlock ≠ none := by
  rcases h.2 with ⟨rfl, _⟩ | ⟨g', c', cur, rfl, _, hg, _⟩
  · exact .inl rfl
  · exact .inr (fun e => by cases e)
set_option maxRecDepth 100000 in
set_option maxHeartbeats 4000000 in
theorem refRead_size (A : Option Addr) (c N : Nat) (l : List Int) (w : World) (hN : N = l.length) (hb : N ≤ 40000) (hs : N < 2420 ∨ 6000 < N) :
    Calls Tryd.prog 20 #[.slice A N c] w (ReadRef l w) := by
  have HI : Hid ((Tryd.prog.info? 24).map (·.size) = some 14) := by show _ = _; kernel_rfl
  have HR : Hid (ReadIs l zeroA [] [] 3) := .inl ⟨by rw [← hN]; exact hs, rfl, rfl, rfl, rfl⟩
  have HO : Hid ((askVals zeroA none 0 none 0).all (·.oneCell') = true) := vals_one _ _ _ _ _
  have hs' : N < 2420 ∨ (2420 ≤ N ∧ 6000 < N) := by omega
  clear hs hN
  go_enter Tryd.func20, Tryd.ntmps20
  go_wp2_with fail
  refine (refSizes_1 _).mono ?_
  rintro e w1 ⟨rfl, hb1⟩
  have HZ := Lib.hid (row_below (heap_alloc_new w _) hb1)
  have LW := Lib.hid (below_next (below_new w _) hb1)
  clear hb1
  rcases hs' with h1 | ⟨h0, h1⟩
  all_goals
    go_wp2_with (refine wpList_store_row rfl 24 _ _ rfl w.heap.size (askVals zeroA none 0 none 0) rfl rfl 24 _ HZ.out HI.out rfl HO.out ?_)
    have gS := below_setRow LW.out (Nat.le_refl _) (askVals zeroA none 0 none 0)
    refine bodyPost_ret (v := .tuple #[.agg (askVals zeroA none 0 none 0), .slice none 0 0, .slice none 0 0, .int .i64 3]) ?_ rfl ⟨zeroA, [], [], 3, none, 0, none, 0, none, 0, none, 0, HR.out, rfl, ⟨Has.nil _ _ _ _, Has.nil _ _ _ _, fun _ => ⟨rfl, rfl⟩, fun _ => ⟨rfl, rfl⟩, Nat.le_refl _, Nat.le_refl _⟩, Has.nil _ _ _ _, Has.nil _ _ _ _, gS⟩
    refine Eq.trans (results_cell4 (p := 2) (a := 3) (b := 4) (c := 5) (ty := 24) ?h _ _ w.heap.size 24 (askVals zeroA none 0 none 0) (0, 0) _ ?hp (setRow_heap _ _ _ _ 24 (0, 0) HZ.out) Tryd.underlying24 rfl HI.out) rfl
    case h => rfl
    case hp => rfl
end Go.Proofs.YtidpihpddkfhgaaDoor
