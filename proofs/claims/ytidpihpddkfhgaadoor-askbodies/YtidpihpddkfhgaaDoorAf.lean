/- Contract: a request, as it is taken of the document's own reader. -/
import Derived.Test.YtidpihpddkfhgaaDoorAe
namespace Go.Proofs.YtidpihpddkfhgaaDoor
open Go.RowKit Slices Go.Proofs.YtidpihpddkfhgaaDoor.Bit

/-- midway: what is left, the local request's cells, the result's own -/
structure Tk (z0 g g0 ga : Nat) (w : World) (s : Option (List Int)) (V : Array Value) (W : World) : Prop where
  rd : RdO z0 g s W
  row : W.heap[ga]? = some (.cells V 24 (0, 0))
  res : ∃ Z : Array Value, Z.size = 14 ∧ W.heap[g0]? = some (.cells Z 24 (0, 0))
  gr : w.grownBy W (some g)
  lt : g < w.heap.size ∧ w.heap.size ≤ g0 ∧ g0 < ga
  sz : V.size = 14
theorem Tk.call {z0 g g0 ga : Nat} {w W W' : World} {s s' : Option (List Int)} {V : Array Value} (h : Tk z0 g g0 ga w s V W) (hr : RdO z0 g s' W') (hg : W.grownBy W' (some g)) : Tk z0 g g0 ga w s' V W' := by
  obtain ⟨Z, hz, h0⟩ := h.res
  have l := h.lt
  refine ⟨hr, ?_, ⟨Z, hz, ?_⟩, grown_two h.gr hg, h.lt, h.sz⟩
  · exact (hg.block ga (Array.getElem?_eq_some_iff.1 h.row).1 (fun e => by injection e with e; omega)).trans h.row
  · exact (hg.block g0 (Array.getElem?_eq_some_iff.1 h0).1 (fun e => by injection e with e; omega)).trans h0
theorem grown_put {w W : World} {g ga : Nat} (h : w.grownBy W (some g)) (hl : w.heap.size ≤ ga) (j : Nat) (u : Value) : w.grownBy (W.setCell ⟨ga, j, none⟩ u) (some g) :=
  ⟨h.os, h.tape, h.output, by have := h.size; simp [World.setCell]; omega, fun k hk hr => (Below.heap_setCell W ⟨ga, j, none⟩ u k (fun e => by have e' : k = ga := e; omega)).trans (h.block k hk hr)⟩
theorem Tk.put {z0 g g0 ga : Nat} {w W : World} {s : Option (List Int)} {V : Array Value} (h : Tk z0 g g0 ga w s V W) (k : Nat) (v : Value) : Tk z0 g g0 ga w s (V.setIfInBounds k v) (W.setCell ⟨ga, k, none⟩ v) := by
  obtain ⟨Z, hz, h0⟩ := h.res
  have l := h.lt
  have ho : ∀ i, i ≠ ga → (W.setCell ⟨ga, k, none⟩ v).heap[i]? = W.heap[i]? := fun i hi => Below.heap_setCell W ⟨ga, k, none⟩ v i hi
  exact ⟨h.rd.far (fun i hi => ho i (by omega)), heap_setCell_same W ga k _ _ v h.row, ⟨Z, hz, (ho g0 (by omega)).trans h0⟩, grown_put h.gr (by omega) k v, h.lt, by rw [Array.size_setIfInBounds]; exact h.sz⟩
theorem Tk.cell {z0 g g0 ga : Nat} {w W : World} {s : Option (List Int)} {V : Array Value} (h : Tk z0 g g0 ga w s V W) {k : Nat} (hk : k < 14) : ∃ v, W.cell? ⟨ga, k, none⟩ = some v := by
  have e := cell_of_row _ _ k _ _ _ h.row
  rw [Array.getElem?_eq_getElem (by rw [h.sz]; exact hk)] at e
  exact ⟨_, e⟩
theorem own_ne_ask {W : World} {B m ga : Nat} {v : Value} {xs : List Value} {V : Array Value} (h : W.ownsRow B 5 1 v m xs) (hr : W.heap[ga]? = some (.cells V 24 (0, 0))) : v.ownBlock = none ∨ v.ownBlock ≠ some ga := by
  rcases h.2 with ⟨rfl, _⟩ | ⟨g', c', cur, rfl, _, hg, _⟩
  · exact .inl rfl
  · refine .inr fun e => ?_
    have e' : g' = ga := by injection e
    subst e'
    rw [hg] at hr
    simp at hr
theorem own_ne_old {W : World} {B m g : Nat} {v : Value} {xs : List Value} (h : W.ownsRow B 5 1 v m xs) (hg : g < B) : v.ownBlock = none ∨ v.ownBlock ≠ some g := by
  by_cases e : v.ownBlock = some g
  · have := (h.lt g e).1
    omega
  · exact .inr e
theorem own_lies {W : World} {B n c : Nat} {A : Option Addr} {xs : List Value} (h : W.ownsRow B 5 1 (.slice A n c) n xs) : Lies A B W.heap.size := fun a e => by
  subst e
  exact h.lt a.block rfl
/-- what Take answers -/
def TakeIs (z0 g : Nat) (bs : List (Int × Int)) (m0 m1 m2 : Int) (s : Option (List Int)) (w : World) (e : Ending) (w' : World) : Prop :=
  ∃ A1 c1 A2 c2 m, e = .returned (.agg (askVals (takeA bs m0 m1 m2 s).1 A1 c1 A2 c2)) ∧
    w'.ownsRow w.heap.size 5 1 (.slice A1 (takeA bs m0 m1 m2 s).1.bytes.length c1) (takeA bs m0 m1 m2 s).1.bytes.length (ints .u8 (takeA bs m0 m1 m2 s).1.bytes) ∧
    w'.ownsRow w.heap.size 5 1 (.slice A2 (takeA bs m0 m1 m2 s).1.token.length c2) (takeA bs m0 m1 m2 s).1.token.length (ints .u8 (takeA bs m0 m1 m2 s).1.token) ∧
    Lies A1 w.heap.size m ∧ Lies A2 m w'.heap.size ∧ RdO z0 g (takeA bs m0 m1 m2 s).2 w' ∧ w.grownBy w' (some g)
theorem takeA_of {lo hi : Int} {m0 m1 m2 : Int} {s s1 s2 s3 s4 s5 s6 s7 s8 s9 s10 s11 s12 s13 s14 : Option (List Int)} {x0 x1 x2 x3 x4 x5 x6 x7 x8 x9 x10 : Int} {p0 p1 p2 : List Int}
    (e0 : rN s lo hi = (x0, s1))    (e1 : rN s1 lo hi = (x1, s2))    (e2 : rN s2 lo hi = (x2, s3))    (e3 : rN s3 lo hi = (x3, s4))    (e4 : rN s4 lo hi = (x4, s5))    (e5 : rN s5 lo hi = (x5, s6))    (e6 : rN s6 lo hi = (x6, s7))    (e7 : rN s7 lo hi = (x7, s8))    (e8 : rN s8 lo hi = (x8, s9))    (e9 : rN s9 lo hi = (x9, s10))    (e10 : rN s10 lo hi = (x10, s11))
    (e11 : rB s11 m0 = (p0, s12)) (e12 : rB s12 m1 = (p1, s13)) (e13 : rB s13 m2 = (p2, s14)) :
    takeA (List.replicate 11 (lo, hi)) m0 m1 m2 s = (⟨x0, x1, x2, x3, x4, x5, x6, x7, x8, x9, x10, strOfNums p0, p1, p2⟩, s14) := by
  have e : rNs (List.replicate 11 (lo, hi)) s = ([x0, x1, x2, x3, x4, x5, x6, x7, x8, x9, x10], s11) := by
    simp only [List.replicate, rNs, e0, e1, e2, e3, e4, e5, e6, e7, e8, e9, e10]
  unfold takeA
  simp only [e, e11, e12, e13]
  rfl

theorem size_setRow2 (w : World) (g : Nat) (cs : Array Value) : (w.setRow g cs).heap.size = w.heap.size := by simp [World.setRow]
theorem grown_setRow (w : World) (g : Nat) (cs : Array Value) : w.grownBy (w.setRow g cs) (some g) :=
  ⟨rfl, rfl, rfl, by rw [size_setRow2]; exact Nat.le_refl _, fun i _ hne => setRow_other _ _ _ _ (fun e => hne (by rw [e]))⟩
theorem vals_one (a : AskV) (A1 : Option Addr) (c1 : Nat) (A2 : Option Addr) (c2 : Nat) : (askVals a A1 c1 A2 c2).all (·.oneCell') = true := by
  rw [← Array.all_toList]
  rfl
set_option maxRecDepth 100000 in
set_option maxHeartbeats 2000000 in
theorem take_any (z0 g : Nat) (s : Option (List Int)) (lo hi : Int) (w : World) (h : RdO z0 g s w) :
    Calls Tryd.prog 38 #[.pointer (some ⟨g, 0, none⟩), .int .i64 lo, .int .i64 hi] w (TakeIs z0 g (List.replicate 11 (lo, hi)) 300 2000 100 s w) := by
  have HI : Hid ((Tryd.prog.info? 24).map (·.size) = some 14) := by show _ = _; kernel_rfl
  have H := Lib.hid h
  have HLT := Lib.hid h.lt
  clear h
  obtain ⟨x0, s1, e0⟩ : ∃ x t, rN s lo hi = (x, t) := ⟨_, _, rfl⟩
  obtain ⟨x1, s2, e1⟩ : ∃ x t, rN s1 lo hi = (x, t) := ⟨_, _, rfl⟩
  obtain ⟨x2, s3, e2⟩ : ∃ x t, rN s2 lo hi = (x, t) := ⟨_, _, rfl⟩
  obtain ⟨x3, s4, e3⟩ : ∃ x t, rN s3 lo hi = (x, t) := ⟨_, _, rfl⟩
  obtain ⟨x4, s5, e4⟩ : ∃ x t, rN s4 lo hi = (x, t) := ⟨_, _, rfl⟩
  obtain ⟨x5, s6, e5⟩ : ∃ x t, rN s5 lo hi = (x, t) := ⟨_, _, rfl⟩
  obtain ⟨x6, s7, e6⟩ : ∃ x t, rN s6 lo hi = (x, t) := ⟨_, _, rfl⟩
  obtain ⟨x7, s8, e7⟩ : ∃ x t, rN s7 lo hi = (x, t) := ⟨_, _, rfl⟩
  obtain ⟨x8, s9, e8⟩ : ∃ x t, rN s8 lo hi = (x, t) := ⟨_, _, rfl⟩
  obtain ⟨x9, s10, e9⟩ : ∃ x t, rN s9 lo hi = (x, t) := ⟨_, _, rfl⟩
  obtain ⟨x10, s11, e10⟩ : ∃ x t, rN s10 lo hi = (x, t) := ⟨_, _, rfl⟩
  obtain ⟨p0, s12, e11⟩ : ∃ x t, rB s11 300 = (x, t) := ⟨_, _, rfl⟩
  obtain ⟨p1, s13, e12⟩ : ∃ x t, rB s12 2000 = (x, t) := ⟨_, _, rfl⟩
  obtain ⟨p2, s14, e13⟩ : ∃ x t, rB s13 100 = (x, t) := ⟨_, _, rfl⟩
  unfold TakeIs
  rw [takeA_of e0 e1 e2 e3 e4 e5 e6 e7 e8 e9 e10 e11 e12 e13]
  have E0 := Lib.hid e0
  have E1 := Lib.hid e1
  have E2 := Lib.hid e2
  have E3 := Lib.hid e3
  have E4 := Lib.hid e4
  have E5 := Lib.hid e5
  have E6 := Lib.hid e6
  have E7 := Lib.hid e7
  have E8 := Lib.hid e8
  have E9 := Lib.hid e9
  have E10 := Lib.hid e10
  have E11 := Lib.hid e11
  have E12 := Lib.hid e12
  have E13 := Lib.hid e13
  clear e0 e1 e2 e3 e4 e5 e6 e7 e8 e9 e10 e11 e12 e13
  go_enter Tryd.func38, Tryd.ntmps38
  go_wp2_with fail
  refine (refN z0 g s lo hi _ (H.out.far (fun i hi => (below_new w _).block i (by have := HLT.out; omega)))).mono ?_
  rw [E0.out]
  rintro e w1 ⟨rfl, hr, hg⟩
  have hz0 := (hg.block w.heap.size (by simp) (fun e => by injection e with e; have := HLT.out; omega)).trans (heap_alloc_new w _)
  have hgr : w.grownBy w1 (some g) := ⟨hg.os, hg.tape, hg.output, by have := hg.size; simp at this; omega, fun i hi hne => (hg.block i (by simp; omega) hne).trans ((below_new w _).block i hi)⟩
  have hlt1 : w.heap.size < w1.heap.size := by have := hg.size; simp at this; omega
  have T0 : Hid (∀ o : Array Value, o.size = 14 → Tk z0 g w.heap.size w1.heap.size w s1 o (w1.alloc (.cells o 24))) := fun o ho =>
    ⟨hr.far (fun i hi => (below_new w1 _).block i (by have := HLT.out; omega)), heap_alloc_new w1 _, ⟨_, rfl, ((below_new w1 _).block _ hlt1).trans hz0⟩, ⟨hgr.os, hgr.tape, hgr.output, by simp; omega, fun i hi hne => ((below_new w1 _).block i (by omega)).trans (hgr.block i hi hne)⟩, ⟨HLT.out, Nat.le_refl _, hlt1⟩, ho⟩
  have HLT1 := Lib.hid hlt1
  clear hr hg hz0 hgr hlt1 H
  obtain ⟨ga, hga⟩ : ∃ ga, ga = w1.heap.size := ⟨_, rfl⟩
  rw [← hga] at T0
  go_wp2_with fail
  rw [← hga]
  have T1 := Lib.hid (T0.out #[.int .i64 x0, .int .i64 0, .int .i64 0, .int .i64 0, .int .i64 0, .int .i64 0, .int .i64 0, .int .i64 0, .int .i64 0, .int .i64 0, .int .i64 0, .string { data := #[] }, .slice none 0 0, .slice none 0 0] rfl)
  clear T0 hga
  refine (refN z0 g s1 lo hi _ T1.out.rd).mono ?_
  rw [E1.out]
  rintro e w2 ⟨rfl, hr, hg⟩
  have U2 := Lib.hid (T1.out.call hr hg)
  obtain ⟨v, hc⟩ := U2.out.cell (k := 1) (by omega)
  have hf := frozen_of_row _ _ 1 _ _ U2.out.row
  clear hr hg T1
  go_wp2_with fail
  have T2 := Lib.hid (U2.out.put 1 (.int .i64 x1))
  clear hc hf U2
  refine (refN z0 g s2 lo hi _ T2.out.rd).mono ?_
  rw [E2.out]
  rintro e w3 ⟨rfl, hr, hg⟩
  have U3 := Lib.hid (T2.out.call hr hg)
  obtain ⟨v, hc⟩ := U3.out.cell (k := 2) (by omega)
  have hf := frozen_of_row _ _ 2 _ _ U3.out.row
  clear hr hg T2
  go_wp2_with fail
  have T3 := Lib.hid (U3.out.put 2 (.int .i64 x2))
  clear hc hf U3
  refine (refN z0 g s3 lo hi _ T3.out.rd).mono ?_
  rw [E3.out]
  rintro e w4 ⟨rfl, hr, hg⟩
  have U4 := Lib.hid (T3.out.call hr hg)
  obtain ⟨v, hc⟩ := U4.out.cell (k := 3) (by omega)
  have hf := frozen_of_row _ _ 3 _ _ U4.out.row
  clear hr hg T3
  go_wp2_with fail
  have T4 := Lib.hid (U4.out.put 3 (.int .i64 x3))
  clear hc hf U4
  refine (refN z0 g s4 lo hi _ T4.out.rd).mono ?_
  rw [E4.out]
  rintro e w5 ⟨rfl, hr, hg⟩
  have U5 := Lib.hid (T4.out.call hr hg)
  obtain ⟨v, hc⟩ := U5.out.cell (k := 4) (by omega)
  have hf := frozen_of_row _ _ 4 _ _ U5.out.row
  clear hr hg T4
  go_wp2_with fail
  have T5 := Lib.hid (U5.out.put 4 (.int .i64 x4))
  clear hc hf U5
  refine (refN z0 g s5 lo hi _ T5.out.rd).mono ?_
  rw [E5.out]
  rintro e w6 ⟨rfl, hr, hg⟩
  have U6 := Lib.hid (T5.out.call hr hg)
  obtain ⟨v, hc⟩ := U6.out.cell (k := 5) (by omega)
  have hf := frozen_of_row _ _ 5 _ _ U6.out.row
  clear hr hg T5
  go_wp2_with fail
  have T6 := Lib.hid (U6.out.put 5 (.int .i64 x5))
  clear hc hf U6
  refine (refN z0 g s6 lo hi _ T6.out.rd).mono ?_
  rw [E6.out]
  rintro e w7 ⟨rfl, hr, hg⟩
  have U7 := Lib.hid (T6.out.call hr hg)
  obtain ⟨v, hc⟩ := U7.out.cell (k := 6) (by omega)
  have hf := frozen_of_row _ _ 6 _ _ U7.out.row
  clear hr hg T6
  go_wp2_with fail
  have T7 := Lib.hid (U7.out.put 6 (.int .i64 x6))
  clear hc hf U7
  refine (refN z0 g s7 lo hi _ T7.out.rd).mono ?_
  rw [E7.out]
  rintro e w8 ⟨rfl, hr, hg⟩
  have U8 := Lib.hid (T7.out.call hr hg)
  obtain ⟨v, hc⟩ := U8.out.cell (k := 7) (by omega)
  have hf := frozen_of_row _ _ 7 _ _ U8.out.row
  clear hr hg T7
  go_wp2_with fail
  have T8 := Lib.hid (U8.out.put 7 (.int .i64 x7))
  clear hc hf U8
  refine (refN z0 g s8 lo hi _ T8.out.rd).mono ?_
  rw [E8.out]
  rintro e w9 ⟨rfl, hr, hg⟩
  have U9 := Lib.hid (T8.out.call hr hg)
  obtain ⟨v, hc⟩ := U9.out.cell (k := 8) (by omega)
  have hf := frozen_of_row _ _ 8 _ _ U9.out.row
  clear hr hg T8
  go_wp2_with fail
  have T9 := Lib.hid (U9.out.put 8 (.int .i64 x8))
  clear hc hf U9
  refine (refN z0 g s9 lo hi _ T9.out.rd).mono ?_
  rw [E9.out]
  rintro e w10 ⟨rfl, hr, hg⟩
  have U10 := Lib.hid (T9.out.call hr hg)
  obtain ⟨v, hc⟩ := U10.out.cell (k := 9) (by omega)
  have hf := frozen_of_row _ _ 9 _ _ U10.out.row
  clear hr hg T9
  go_wp2_with fail
  have T10 := Lib.hid (U10.out.put 9 (.int .i64 x9))
  clear hc hf U10
  refine (refN z0 g s10 lo hi _ T10.out.rd).mono ?_
  rw [E10.out]
  rintro e w11 ⟨rfl, hr, hg⟩
  have U11 := Lib.hid (T10.out.call hr hg)
  obtain ⟨v, hc⟩ := U11.out.cell (k := 10) (by omega)
  have hf := frozen_of_row _ _ 10 _ _ U11.out.row
  clear hr hg T10
  go_wp2_with fail
  have T11 := Lib.hid (U11.out.put 10 (.int .i64 x10))
  clear hc hf U11
  refine (refT z0 g s11 300 _ T11.out.rd).mono ?_
  rw [E11.out]
  rintro e w12 ⟨rfl, hr, hg⟩
  have U12 := Lib.hid (T11.out.call hr hg)
  obtain ⟨v, hc⟩ := U12.out.cell (k := 11) (by omega)
  have hf := frozen_of_row _ _ 11 _ _ U12.out.row
  clear hr hg T11
  go_wp2_with fail
  have T12 := Lib.hid (U12.out.put 11 (.string (strOfNums p0)))
  clear hc hf U12
  refine (refB z0 g s12 2000 _ T12.out.rd).mono ?_
  rw [E12.out]
  rintro e w13 ⟨A1, c1, rfl, ho, hr, hg⟩
  have U13 := Lib.hid (T12.out.call hr hg)
  have hB : w.heap.size ≤ (w12.setCell ⟨ga, 11, none⟩ (.string (strOfNums p0))).heap.size := T12.out.gr.size
  have O13 := Lib.hid (own_down ho hB)
  obtain ⟨v, hc⟩ := U13.out.cell (k := 12) (by omega)
  have hf := frozen_of_row _ _ 12 _ _ U13.out.row
  clear ho hr hg T12 hB
  go_wp2_with fail
  have T13 := Lib.hid (U13.out.put 12 (.slice A1 p1.length c1))
  have P13 := Lib.hid (O13.out.kept (grown_cell w13 ga 12 (.slice A1 p1.length c1)) (own_ne_ask O13.out U13.out.row))
  have L13 := Lib.hid (own_lies P13.out)
  clear hc hf U13 O13
  generalize w13.setCell ⟨ga, 12, none⟩ (.slice A1 p1.length c1) = W13 at T13 P13 L13 ⊢
  refine (refB z0 g s13 100 _ T13.out.rd).mono ?_
  rw [E13.out]
  rintro e w14 ⟨A2, c2, rfl, ho, hr, hg⟩
  have U14 := Lib.hid (T13.out.call hr hg)
  have Q14 := Lib.hid ho
  have P14 := Lib.hid (P13.out.kept hg (own_ne_old P13.out HLT.out))
  have B14 : Hid (w.heap.size ≤ W13.heap.size) := T13.out.gr.size
  obtain ⟨v, hc⟩ := U14.out.cell (k := 13) (by omega)
  have hf := frozen_of_row _ _ 13 _ _ U14.out.row
  clear ho hr hg T13 P13
  obtain ⟨Z, hz⟩ := U14.out.res
  have T14 := Lib.hid (U14.out.put 13 (.slice A2 p2.length c2))
  have P15 := Lib.hid (P14.out.kept (grown_cell w14 ga 13 (.slice A2 p2.length c2)) (own_ne_ask P14.out U14.out.row))
  have Q15 := Lib.hid (Q14.out.kept (grown_cell w14 ga 13 (.slice A2 p2.length c2)) (own_ne_ask Q14.out U14.out.row))
  have HS := Lib.hid T14.out.sz
  have HR := Lib.hid T14.out.row
  obtain ⟨Z2, hz2⟩ := T14.out.res
  have HZ := Lib.hid hz2
  clear hz hz2 U14 P14 Q14
  have HV : ((((((((((((((#[.int .i64 x0, .int .i64 0, .int .i64 0, .int .i64 0, .int .i64 0, .int .i64 0, .int .i64 0, .int .i64 0, .int .i64 0, .int .i64 0, .int .i64 0, .string { data := #[] }, .slice none 0 0, .slice none 0 0] : Array Value).setIfInBounds 1 (.int .i64 x1)).setIfInBounds 2 (.int .i64 x2)).setIfInBounds 3 (.int .i64 x3)).setIfInBounds 4 (.int .i64 x4)).setIfInBounds 5 (.int .i64 x5)).setIfInBounds 6 (.int .i64 x6)).setIfInBounds 7 (.int .i64 x7)).setIfInBounds 8 (.int .i64 x8)).setIfInBounds 9 (.int .i64 x9)).setIfInBounds 10 (.int .i64 x10)).setIfInBounds 11 (.string (strOfNums p0))).setIfInBounds 12 (.slice A1 p1.length c1)).setIfInBounds 13 (.slice A2 p2.length c2)) = askVals ⟨x0, x1, x2, x3, x4, x5, x6, x7, x8, x9, x10, strOfNums p0, p1, p2⟩ A1 c1 A2 c2 := by
    apply Array.ext'
    simp only [Array.toList_setIfInBounds]
    rfl
  rw [HV] at HR HS T14
  obtain ⟨V, hV⟩ : ∃ V, V = askVals ⟨x0, x1, x2, x3, x4, x5, x6, x7, x8, x9, x10, strOfNums p0, p1, p2⟩ A1 c1 A2 c2 := ⟨_, rfl⟩
  have HO : Hid ((askVals ⟨x0, x1, x2, x3, x4, x5, x6, x7, x8, x9, x10, strOfNums p0, p1, p2⟩ A1 c1 A2 c2).all (·.oneCell') = true) := vals_one _ _ _ _ _
  rw [← hV] at HR HS T14 HO
  have HVV := Lib.hid hV
  clear HV hV
  go_wp2_with (first
    | (refine wpList_load_row rfl 24 _ rfl ga rfl 24 V (0, 0) _ HR.out Tryd.underlying24 rfl (by rw [HS.out]; exact HI.out) ?_)
    | (refine wpList_store_row rfl 24 _ _ rfl w.heap.size V rfl rfl 24 Z2 HZ.out.2 (by rw [HS.out]; exact HI.out) (by rw [HS.out]; exact HZ.out.1) HO.out ?_))
  rw [HVV.out] at HS ⊢
  have hz := HZ.out
  have gS := grown_setRow (w14.setCell ⟨ga, 13, none⟩ (.slice A2 p2.length c2)) w.heap.size (askVals ⟨x0, x1, x2, x3, x4, x5, x6, x7, x8, x9, x10, strOfNums p0, p1, p2⟩ A1 c1 A2 c2)
  refine bodyPost_ret (v := .agg (askVals ⟨x0, x1, x2, x3, x4, x5, x6, x7, x8, x9, x10, strOfNums p0, p1, p2⟩ A1 c1 A2 c2)) ?_ rfl ⟨A1, c1, A2, c2, W13.heap.size, rfl, ?_, ?_, L13.out, ?_, ?_, ?_⟩
  · exact results_cell_row rfl _ _ w.heap.size 24 _ (0, 0) _ rfl (setRow_heap _ _ Z2 _ 24 (0, 0) hz.2) Tryd.underlying24 rfl (by rw [HS.out]; exact HI.out)
  · exact P15.out.kept gS (own_ne_ask P15.out hz.2)
  · exact (own_down Q15.out B14.out).kept gS (own_ne_ask Q15.out hz.2)
  · exact fun a e => by
      have := own_lies Q15.out a e
      exact ⟨this.1, Nat.lt_of_lt_of_le this.2 gS.size⟩
  · exact T14.out.rd.far fun i hi => setRow_other _ _ _ _ (by have := HLT.out; omega)
  · have q := T14.out.gr
    exact ⟨gS.os.trans q.os, gS.tape.trans q.tape, gS.output.trans q.output, Nat.le_trans q.size gS.size, fun i hi hne => (setRow_other _ _ _ _ (by omega)).trans (q.block i hi hne)⟩
end Go.Proofs.YtidpihpddkfhgaaDoor
