/- Several texts in one: Ph, Pi. -/
import Derived.Test.YtidpihpddkfhgaaDoorOy
import Derived.Test.YtidpihpddkfhgaaDoorAh2
import Derived.Test.YtidpihpddkfhgaaDoorPx
/- Contracts: the landed code's reader, as a request is taken of it. -/
namespace Go.Proofs.YtidpihpddkfhgaaDoor
open Go.RowKit Slices Go.Proofs.YtidpihpddkfhgaaDoor.Bit

/-- a reader that has s left (none: something was wrong) -/
def RdLd (B U g : Nat) (s : Option (List Int)) (w : World) : Prop := match s with
  | some l => prL B U g l false w ∧ Fit 8 l ∧ l.length ≤ 10000
  | none => ∃ l, prL B U g l true w ∧ Fit 8 l ∧ l.length ≤ 10000
theorem RdLd.some_ {B U g : Nat} {l : List Int} {w : World} (h : prL B U g l false w) (hf : Fit 8 l) (hl : l.length ≤ 10000) : RdLd B U g (some l) w := ⟨h, hf, hl⟩
theorem RdLd.none_ {B U g : Nat} {l : List Int} {w : World} (h : prL B U g l true w) (hf : Fit 8 l) (hl : l.length ≤ 10000) : RdLd B U g none w := ⟨l, h, hf, hl⟩
theorem RdLd.lt {B U g : Nat} {s : Option (List Int)} {w : World} (h : RdLd B U g s w) : B ≤ g ∧ g < U ∧ U ≤ w.heap.size := by
  cases s with
  | none => obtain ⟨l, h1, _⟩ := h; exact prL_lt _ _ _ _ _ _ h1
  | some l => exact prL_lt _ _ _ _ _ _ h.1
theorem RdLd.keep {B U g : Nat} {s : Option (List Int)} {w w' : World} (h : RdLd B U g s w) (hs : w.heap.size ≤ w'.heap.size) (hk : ∀ i, B ≤ i → i < U → w'.heap[i]? = w.heap[i]?) : RdLd B U g s w' := by
  cases s with
  | none => obtain ⟨l, h1, h2⟩ := h; exact ⟨l, prL_keep _ _ _ _ _ _ _ h1 hs hk, h2⟩
  | some l => exact ⟨prL_keep _ _ _ _ _ _ _ h.1 hs hk, h.2⟩
theorem RdLd.next {B U g : Nat} {s : Option (List Int)} {w w' : World} (h : RdLd B U g s w) (hb : Below w.heap.size w w') : RdLd B U g s w' :=
  h.keep hb.size fun i _ hi => hb.block i (Nat.lt_of_lt_of_le hi h.lt.2.2)
theorem landN (B U g : Nat) (s : Option (List Int)) (lo hi : Int) (w : World) (h : RdLd B U g s w) :
    Calls Tryd.prog 68 #[.pointer (some ⟨g, 0, none⟩), .int .i64 lo, .int .i64 hi] w fun e w' => e = .returned (.int .i64 (rN s lo hi).1) ∧ RdLd B U g (rN s lo hi).2 w' ∧ w.grownBy w' (some g) := by
  cases s with
  | none =>
    obtain ⟨l, h1, h2, h3⟩ := h
    refine (num_no B U g l true lo hi w h1 h2 (fun q => Bool.noConfusion q.1)).mono ?_
    rintro e w' ⟨he, ⟨l', f', n', hr⟩, hg⟩
    exact ⟨he, .none_ hr f' (Nat.le_trans n' h3), hg⟩
  | some l =>
    obtain ⟨h1, h2, h3⟩ := h
    unfold rN
    by_cases hk : rdOk l false lo hi
    · simp only [if_pos hk]
      refine (num_yes B U g l lo hi w h1 h2 hk).mono ?_
      rintro e w' ⟨he, hr, hg⟩
      exact ⟨he, .some_ hr (fit_drop h2 8) (by rw [List.length_drop]; omega), hg⟩
    · simp only [if_neg hk]
      refine (num_no B U g l false lo hi w h1 h2 hk).mono ?_
      rintro e w' ⟨he, ⟨l', f', n', hr⟩, hg⟩
      exact ⟨he, .none_ hr f' (Nat.le_trans n' h3), hg⟩
theorem landT (B U g : Nat) (s : Option (List Int)) (most : Int) (w : World) (h : RdLd B U g s w) :
    Calls Tryd.prog 69 #[.pointer (some ⟨g, 0, none⟩), .int .i64 most] w fun e w' => e = .returned (.string (strOfNums (rB s most).1)) ∧ RdLd B U g (rB s most).2 w' ∧ w.grownBy w' (some g) := by
  cases s with
  | none =>
    obtain ⟨l, h1, h2, h3⟩ := h
    refine (text_no B U g l true most w h1 h2 (fun q => Bool.noConfusion q.2.1.1)).mono ?_
    rintro e w' ⟨he, ⟨l', f', n', hr⟩, hg⟩
    exact ⟨he, .none_ hr f' (Nat.le_trans n' h3), hg⟩
  | some l =>
    obtain ⟨h1, h2, h3⟩ := h
    unfold rB
    by_cases hk : rdBOk l false most
    · simp only [if_pos hk]
      refine (text_yes B U g l most w h1 h2 hk).mono ?_
      rintro e w' ⟨he, hr, hg⟩
      exact ⟨he, .some_ hr (fit_drop h2 _) (by rw [List.length_drop]; omega), hg⟩
    · simp only [if_neg hk]
      refine (text_no B U g l false most w h1 h2 hk).mono ?_
      rintro e w' ⟨he, ⟨l', f', n', hr⟩, hg⟩
      exact ⟨he, .none_ hr f' (Nat.le_trans n' h3), hg⟩
theorem landB (B U g : Nat) (s : Option (List Int)) (most : Int) (w : World) (h : RdLd B U g s w) :
    Calls Tryd.prog 70 #[.pointer (some ⟨g, 0, none⟩), .int .i64 most] w fun e w' => ∃ A' c', e = .returned (.slice A' (rB s most).1.length c') ∧ w'.ownsRow w.heap.size 5 1 (.slice A' (rB s most).1.length c') (rB s most).1.length (ints .u8 (rB s most).1) ∧ RdLd B U g (rB s most).2 w' ∧ w.grownBy w' (some g) := by
  cases s with
  | none =>
    obtain ⟨l, h1, h2, h3⟩ := h
    refine (bytes_no B U g l true most w h1 h2 (fun q => Bool.noConfusion q.2.1.1)).mono ?_
    rintro e w' ⟨he, ⟨l', f', n', hr⟩, hg⟩
    exact ⟨none, 0, he, World.ownsRow_nil _ _ _ _, .none_ hr f' (Nat.le_trans n' h3), hg⟩
  | some l =>
    obtain ⟨h1, h2, h3⟩ := h
    unfold rB
    by_cases hk : rdBOk l false most
    · simp only [if_pos hk]
      have hl : ((l.drop 8).take (rdX l).toNat).length = (rdX l).toNat := by rw [List.length_take, List.length_drop]; have := hk.2.2; omega
      refine (bytes_yes B U g l most w h1 h2 h3 hk).mono ?_
      rintro e w' ⟨A', c', he, ho, hr, hg⟩
      rw [hl]
      exact ⟨A', c', he, ho, .some_ hr (fit_drop h2 _) (by rw [List.length_drop]; omega), hg⟩
    · simp only [if_neg hk]
      refine (bytes_no B U g l false most w h1 h2 hk).mono ?_
      rintro e w' ⟨he, ⟨l', f', n', hr⟩, hg⟩
      exact ⟨none, 0, he, World.ownsRow_nil _ _ _ _, .none_ hr f' (Nat.le_trans n' h3), hg⟩
theorem landE (B U g : Nat) (s : Option (List Int)) (w : World) (h : RdLd B U g s w) :
    Calls Tryd.prog 71 #[.pointer (some ⟨g, 0, none⟩)] w fun e w' => ∃ v, e = .returned v ∧ IsW (endO s) v w' ∧ Below w.heap.size w w' := by
  cases s with
  | none =>
    obtain ⟨l, h1, _⟩ := h
    obtain ⟨_, _, _, _, A, c, h2, _⟩ := h1
    refine (end_of _ _ w (ended_ps g l.length c A true w h2)).mono ?_
    rintro e w' ⟨v, he, hv, hb⟩
    rw [if_pos (.inl rfl)] at hv
    exact ⟨v, he, hv, hb⟩
  | some l =>
    obtain ⟨h1, _⟩ := h
    obtain ⟨_, _, _, _, A, c, h2, _⟩ := h1
    refine (end_of _ _ w (ended_ps g l.length c A false w h2)).mono ?_
    rintro e w' ⟨v, he, hv, hb⟩
    refine ⟨v, he, ?_, hb⟩
    have e1 : (if false = true ∨ 0 < l.length then (4 : Int) else 0) = endO (some l) := by
      unfold endO
      by_cases hl : 0 < l.length
      · simp only [hl]; simp
      · simp only [hl]; simp
    rw [← e1]
    exact hv

/-- no cell of no request holds an error's part -/
theorem zeroV_not {k : Nat} {v : Value} (h : zeroV[k]? = some v) : v = .int .i64 0 ∨ v = .string ⟨#[]⟩ ∨ v = .slice none 0 0 := by
  have hm : v ∈ zeroV.toList := by
    rw [← Array.getElem?_toList] at h
    exact List.mem_of_getElem? h
  have hz : zeroV.toList = [.int .i64 0, .int .i64 0, .int .i64 0, .int .i64 0, .int .i64 0, .int .i64 0, .int .i64 0, .int .i64 0, .int .i64 0, .int .i64 0, .int .i64 0, .string ⟨#[]⟩, .slice none 0 0, .slice none 0 0] := rfl
  rw [hz] at hm
  simp only [List.mem_cons, List.not_mem_nil, or_false] at hm
  rcases hm with h | h | h | h | h | h | h | h | h | h | h | h | h | h <;> simp [h]
theorem cell_zero {w : World} {g : Nat} {p : Addr} {v : Value} (V : Array Value) (hz : w.heap[g]? = some (.cells zeroV 24 (0, 0))) (hc : w.cell? p = some v) (h0 : v ≠ .int .i64 0) (h1 : v ≠ .string ⟨#[]⟩) (h2 : v ≠ .slice none 0 0) : (w.setRow g V).cell? p = some v := by
  by_cases hp : p.block = g
  · exfalso
    unfold World.cell? at hc
    rw [hp, hz] at hc
    simp only at hc
    by_cases hs : p.spot.isSome = true
    · rw [if_pos hs] at hc
      cases hc
    · rw [if_neg hs] at hc
      rcases zeroV_not hc with h | h | h
      · exact h0 h
      · exact h1 h
      · exact h2 h
  · rw [← hc]
    unfold World.cell?
    rw [setRow_other _ _ _ _ hp]
theorem IsW.put {c : Int} {v : Value} {w : World} {g : Nat} (h : IsW c v w) (V : Array Value) (hz : w.heap[g]? = some (.cells zeroV 24 (0, 0))) : IsW c v (w.setRow g V) := by
  rcases h with h | ⟨h0, q, p, hv, hq, hc⟩
  · exact .inl h
  · exact .inr ⟨h0, q, p, hv, cell_zero V hz hq (by simp) (by simp) (by simp), cell_zero V hz hc (by simp; exact h0) (by simp) (by simp)⟩
theorem IsErr.put {c : Int} {v : Value} {w : World} {g : Nat} (h : IsErr c v w) (V : Array Value) (hz : w.heap[g]? = some (.cells zeroV 24 (0, 0))) : IsErr c v (w.setRow g V) := by
  rcases h with h | ⟨h0, q, p, hv, hc, hq | ⟨q1, hq1, hq⟩⟩
  · exact .inl h
  · exact .inr ⟨h0, q, p, hv, cell_zero V hz hc (by simp; exact h0) (by simp) (by simp), .inl (cell_zero V hz hq (by simp) (by simp) (by simp))⟩
  · exact .inr ⟨h0, q, p, hv, cell_zero V hz hc (by simp; exact h0) (by simp) (by simp), .inr ⟨q1, cell_zero V hz hq1 (by simp) (by simp) (by simp), cell_zero V hz hq (by simp) (by simp) (by simp)⟩⟩
theorem IsF.put {c : Int} {v : Value} {w : World} {g : Nat} (h : IsF c v w) (V : Array Value) (hz : w.heap[g]? = some (.cells zeroV 24 (0, 0))) : IsF c v (w.setRow g V) := by
  rcases h with h | ⟨h0, p, hv, hc⟩
  · exact .inl h
  · exact .inr ⟨h0, p, hv, cell_zero V hz hc (by simp; exact h0) (by simp) (by simp)⟩

/-- midway: what is left, the local request's cells, the result's own, the list of numbers -/
structure Md (B U g g0 ga : Nat) (A : Addr) (w : World) (s : Option (List Int)) (V : Array Value) (W : World) : Prop where
  rd : RdLd B U g s W
  row : W.heap[ga]? = some (.cells V 24 (0, 0))
  res : W.heap[g0]? = some (.cells zeroV 24 (0, 0))
  num : NumT W A ga
  bel : Below w.heap.size w W
  lt : w.heap.size ≤ g0 ∧ g0 < ga ∧ ga < B ∧ U ≤ A.block
  sz : V.size = 14
theorem numT_keep {w w' : World} {A : Addr} {g : Nat} (h : NumT w A g) (hs : w.heap.size ≤ w'.heap.size) (hk : w'.heap[A.block]? = w.heap[A.block]?) : NumT w' A g := by
  have e : ∀ p : Addr, p.block = A.block → w'.cell? p = w.cell? p := fun p hp => by
    unfold World.cell?
    rw [hp, hk]
  exact ⟨Nat.lt_of_lt_of_le h.lt hs, fun k hk => (e _ (add_block A _)).trans (h.c0 k hk), fun k hk => (e ⟨(A.add (k * 3)).block, (A.add (k * 3)).off + 1, none⟩ (add_block A _)).trans (h.c1 k hk), fun k hk => (e ⟨(A.add (k * 3)).block, (A.add (k * 3)).off + 2, none⟩ (add_block A _)).trans (h.c2 k hk)⟩
theorem Md.call {B U g g0 ga : Nat} {A : Addr} {w W W' : World} {s s' : Option (List Int)} {V : Array Value} (h : Md B U g g0 ga A w s V W) (hr : RdLd B U g s' W') (hg : W.grownBy W' (some g)) : Md B U g g0 ga A w s' V W' := by
  have h0 := h.res
  have l := h.lt
  have r := h.rd.lt
  refine ⟨hr, ?_, ?_, numT_keep h.num hg.size (hg.block _ h.num.lt (fun e => by injection e with e; omega)), h.bel.grown hg h.bel.size (fun q e => by injection e with e; omega), h.lt, h.sz⟩
  · exact (hg.block ga (Array.getElem?_eq_some_iff.1 h.row).1 (fun e => by injection e with e; omega)).trans h.row
  · exact (hg.block g0 (Array.getElem?_eq_some_iff.1 h0).1 (fun e => by injection e with e; omega)).trans h0
theorem Md.next {B U g g0 ga : Nat} {A : Addr} {w W W' : World} {s : Option (List Int)} {V : Array Value} (h : Md B U g g0 ga A w s V W) (hb : Below W.heap.size W W') : Md B U g g0 ga A w s V W' := by
  have h0 := h.res
  exact ⟨h.rd.next hb, row_below h.row hb, row_below h0 hb, h.num.next hb, below_next h.bel hb, h.lt, h.sz⟩
theorem Md.put {B U g g0 ga : Nat} {A : Addr} {w W : World} {s : Option (List Int)} {V : Array Value} (h : Md B U g g0 ga A w s V W) (k : Nat) (v : Value) : Md B U g g0 ga A w s (V.setIfInBounds k v) (W.setCell ⟨ga, k, none⟩ v) := by
  have h0 := h.res
  have l := h.lt
  have r := h.rd.lt
  have ho : ∀ i, i ≠ ga → (W.setCell ⟨ga, k, none⟩ v).heap[i]? = W.heap[i]? := fun i hi => Below.heap_setCell W ⟨ga, k, none⟩ v i hi
  have hs : W.heap.size ≤ (W.setCell ⟨ga, k, none⟩ v).heap.size := by simp [World.setCell]
  exact ⟨h.rd.keep hs (fun i hi _ => ho i (by omega)), heap_setCell_same W ga k _ _ v h.row, (ho g0 (by omega)).trans h0, numT_keep h.num hs (ho _ (by omega)), h.bel.setCell (by show _ ≤ ga; omega) _, h.lt, by rw [Array.size_setIfInBounds]; exact h.sz⟩
theorem Md.cell {B U g g0 ga : Nat} {A : Addr} {w W : World} {s : Option (List Int)} {V : Array Value} (h : Md B U g g0 ga A w s V W) {k : Nat} (hk : k < 14) : ∃ v, W.cell? ⟨ga, k, none⟩ = some v := by
  have e := cell_of_row _ _ k _ _ _ h.row
  rw [Array.getElem?_eq_getElem (by rw [h.sz]; exact hk)] at e
  exact ⟨_, e⟩
end Go.Proofs.YtidpihpddkfhgaaDoor

/- Words: a request that is read number by number; its cells midway. -/
namespace Go.Proofs.YtidpihpddkfhgaaDoor
open Go.RowKit Slices Go.Proofs.YtidpihpddkfhgaaDoor.Bit

theorem rNs_snoc : ∀ (bs : List (Int × Int)) (b : Int × Int) (s : Option (List Int)), rNs (bs ++ [b]) s = ((rNs bs s).1 ++ [(rN (rNs bs s).2 b.1 b.2).1], (rN (rNs bs s).2 b.1 b.2).2) := by
  intro bs
  induction bs with
  | nil => intro b s; rfl
  | cons c r ih =>
    intro b s
    show ((rN s c.1 c.2).1 :: (rNs (r ++ [b]) (rN s c.1 c.2).2).1, (rNs (r ++ [b]) (rN s c.1 c.2).2).2) = _
    rw [ih]
    rfl
theorem bnd_next {k : Nat} (hk : k < 11) : bndA.take (k + 1) = bndA.take k ++ [(loA k, hiA k)] := by
  have hl : k < bndA.length := hk
  rw [List.take_succ_eq_append_getElem hl]
  congr 1
  unfold loA hiA
  rw [List.getD_eq_getElem?_getD, List.getElem?_eq_getElem hl]
  rfl
theorem rNs_len : ∀ (bs : List (Int × Int)) (s : Option (List Int)), (rNs bs s).1.length = bs.length := by
  intro bs
  induction bs with
  | nil => intro s; rfl
  | cons c r ih => intro s; show (_ :: _).length = _; rw [List.length_cons, ih, List.length_cons]
/-- the cells of a request of which the first numbers are read -/
def nV (xs : List Int) : Array Value := (ints .i64 (xs ++ List.replicate (11 - xs.length) 0) ++ ([.string ⟨#[]⟩, .slice none 0 0, .slice none 0 0] : List Value)).toArray
theorem nV_none : nV [] = zeroV := rfl
theorem nV_set (xs : List Int) (x : Int) (h : xs.length < 11) : (nV xs).setIfInBounds xs.length (.int .i64 x) = nV (xs ++ [x]) := by
  obtain ⟨m, hm⟩ : ∃ m, 11 - xs.length = m + 1 := ⟨10 - xs.length, by omega⟩
  have hm2 : 11 - (xs ++ [x]).length = m := by rw [List.length_append]; show 11 - (xs.length + 1) = m; omega
  unfold nV
  rw [hm, hm2]
  apply Array.ext'
  simp only [Array.toList_setIfInBounds]
  unfold ints
  rw [List.replicate_succ]
  simp only [List.map_append, List.map_cons, List.append_assoc, List.cons_append, List.nil_append]
  rw [List.set_append_right _ _ (by rw [List.length_map]; exact Nat.le_refl _), List.length_map, Nat.sub_self, List.set_cons_zero]
theorem nV_size (xs : List Int) (h : xs.length ≤ 11) : (nV xs).size = 14 := by
  unfold nV ints
  simp only [List.size_toArray, List.length_append, List.length_map, List.length_replicate]
  show xs.length + (11 - xs.length) + 3 = 14
  omega
theorem nV_done {xs : List Int} (h : xs.length = 11) (p0 : ByteArray) (p1 p2 : List Int) (A1 A2 : Option Addr) (c1 c2 : Nat) :
    (((nV xs).setIfInBounds 11 (.string p0)).setIfInBounds 12 (.slice A1 p1.length c1)).setIfInBounds 13 (.slice A2 p2.length c2) = askVals (ofNs xs p0 p1 p2) A1 c1 A2 c2 := by
  match xs, h with
  | [a, b, c, d, e, f, g, i, j, k, l], _ =>
    apply Array.ext'
    simp only [Array.toList_setIfInBounds]
    rfl
/-- midway, the first k numbers read -/
def MdK (B U g g0 ga : Nat) (A : Addr) (w : World) (b : List Int) (k : Nat) (W : World) : Prop := Md B U g g0 ga A w (rNs (bndA.take k) (some b)).2 (nV (rNs (bndA.take k) (some b)).1) W
theorem MdK.step {B U g g0 ga : Nat} {A : Addr} {w W : World} {b : List Int} {k : Nat} (hk : k < 11) (h : Md B U g g0 ga A w (rN (rNs (bndA.take k) (some b)).2 (loA k) (hiA k)).2 (nV (rNs (bndA.take k) (some b)).1) W) :
    MdK B U g g0 ga A w b (k + 1) (W.setCell ⟨ga, k, none⟩ (.int .i64 (rN (rNs (bndA.take k) (some b)).2 (loA k) (hiA k)).1)) := by
  have q := h.put k (.int .i64 (rN (rNs (bndA.take k) (some b)).2 (loA k) (hiA k)).1)
  have hl : (rNs (bndA.take k) (some b)).1.length = k := by rw [rNs_len, List.length_take]; show min k 11 = k; omega
  have e := nV_set (rNs (bndA.take k) (some b)).1 (rN (rNs (bndA.take k) (some b)).2 (loA k) (hiA k)).1 (by omega)
  rw [hl] at e
  rw [e] at q
  unfold MdK
  rw [bnd_next hk, rNs_snoc]
  exact q
end Go.Proofs.YtidpihpddkfhgaaDoor

