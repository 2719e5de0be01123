/- Contract: awake: what every program answers that is one. -/
import Derived.Test.YtmegjjfgiibobaaDoorCk
namespace Go.Proofs.YtmegjjfgiibobaaDoor
open Go.RowKit Slices Go.Proofs.YtmegjjfgiibobaaDoor.Bit

theorem valTo_app (l r : List Int) : ∀ k, k ≤ l.length → valTo (l ++ r) k = valTo l k := by
  intro k
  induction k with
  | zero => intro _; rfl
  | succ k ih =>
    intro hk
    show valTo (l ++ r) k * 256 + ((l ++ r).getD k 0).toNat = valTo l k * 256 + (l.getD k 0).toNat
    rw [ih (by omega), List.getD_eq_getElem?_getD, List.getElem?_append_left (by omega), ← List.getD_eq_getElem?_getD]
/-- a number that fits is read as it was laid -/
theorem rdX_be {n : Int} (h0 : -9223372036854775808 ≤ n) (h1 : n ≤ 9223372036854775807) (r : List Int) : rdX (be8 n ++ r) = n := by
  unfold rdX
  rw [valTo_app _ _ 8 (by rw [be8_len]; omega), val_be8, wrap_u64 h0 h1]
theorem drop_be (n : Int) (r : List Int) : (be8 n ++ r).drop 8 = r := by rw [List.drop_left' (be8_len n)]
theorem rdOk_be {n lo hi : Int} (h0 : -9223372036854775808 ≤ n) (h1 : n ≤ 9223372036854775807) (r : List Int) (h2 : lo ≤ n) (h3 : n ≤ hi) : rdOk (be8 n ++ r) false lo hi :=
  ⟨rfl, by rw [List.length_append, be8_len]; omega, by rw [rdX_be h0 h1]; exact h2, by rw [rdX_be h0 h1]; exact h3⟩
theorem IsErr.none {v : Value} {w : World} (h : IsErr 0 v w) : v = .nilIface := by
  rcases h with h | h
  · exact h.2
  · exact absurd rfl h.1
theorem bytes_has (w : World) (l : List Int) : Has .u8 (w.alloc (.cells (ints .u8 l).toArray 5)) (w.alloc (.cells (ints .u8 l).toArray 5)).heap.size (some ⟨w.heap.size, 0, none⟩) l := fun k hk => by
  refine ⟨_, rfl, by simp, ?_⟩
  have e : (⟨w.heap.size, 0, none⟩ : Addr).add k = ⟨w.heap.size, k, none⟩ := by unfold Addr.add; split <;> simp_all
  rw [e, cell_of_row _ _ k _ _ _ (heap_alloc_new w (.cells (ints .u8 l).toArray 5))]
  simp only [List.getElem?_toArray]
  exact ints_at hk
theorem fit_app {l r : List Int} (h : Fit 8 l) (h' : Fit 8 r) : Fit 8 (l ++ r) := fun i hi => by
  rw [List.length_append] at hi
  rw [List.getD_eq_getElem?_getD]
  by_cases h1 : i < l.length
  · rw [List.getElem?_append_left h1, ← List.getD_eq_getElem?_getD]; exact h i h1
  · rw [List.getElem?_append_right (by omega), ← List.getD_eq_getElem?_getD]; exact h' _ (by omega)
theorem text_a : [] ++ be8 (({ data := #[97] } : ByteArray).size : Int) ++ strNums { data := #[97] } = [0, 0, 0, 0, 0, 0, 0, 1, 97] := by decide +kernel

set_option maxRecDepth 100000 in
set_option maxHeartbeats 4000000 in
theorem awake_any {pr : Nat → Nat → Nat → List Int → Bool → World → Prop} (P : CodeOk pr) (w : World) (hg : Han w) :
    Calls Tryd.prog 8 #[] w fun e w' => e = .returned (.bool true) ∧ Below w.heap.size w w' := by
  have HG := Lib.hid hg
  clear hg
  have B0 : Hid (Below w.heap.size w (w.alloc (.cells #[.int .i64 7] 3))) := (Below.refl _ _).alloc (Nat.le_refl _) _
  go_enter Tryd.func8, Tryd.ntmps8
  go_wp2_with fail
  refine (P.number none (some ⟨w.heap.size, 0, none⟩) 0 0 1 1 [] [7] (w.alloc (.cells #[.int .i64 7] 3)) (base_nil _) rfl (one_has w 7) (fun h => by cases h) (by omega) (by omega)).mono ?_
  rintro e w1 ⟨A1, c1, rfl, ho, hb⟩
  have e7 : [] ++ beL [7] = be8 7 ++ [] := by rw [beL_one, List.append_nil]; rfl
  rw [e7] at ho ⊢
  have l7 : (be8 7 ++ []).length = 8 := by rw [List.append_nil, be8_len]
  rw [l7] at ho ⊢
  have B1 := Lib.hid (below_next B0.out hb)
  have O1 := Lib.hid ho
  clear ho hb B0
  go_wp2_with fail
  refine (P.new A1 8 c1 (be8 7 ++ []) w1 (Base.of O1.out (by omega)) (fit_app (be8_fit 7) (fun i hi => by cases hi))).mono ?_
  rintro e w2 ⟨g, U, rfl, hp, hb⟩
  have GL : Hid (w.heap.size ≤ g) := Nat.le_trans B1.out.size (P.lt _ _ _ _ _ _ hp).1
  have B2 := Lib.hid (below_next B1.out hb)
  have P2 := Lib.hid hp
  clear hp hb B1 O1
  go_wp2_with fail
  refine (P.num_yes _ U g (be8 7 ++ []) 0 9 w2 P2.out (fit_app (be8_fit 7) (fun i hi => by cases hi)) (by rw [l7]; omega) (rdOk_be (by omega) (by omega) [] (by omega) (by omega))).mono ?_
  rw [rdX_be (by omega) (by omega), drop_be]
  rintro e w3 ⟨rfl, hp, hgr⟩
  have B3 := Lib.hid (below_grown B2.out hgr GL.out)
  have P3 := Lib.hid hp
  clear hp hgr B2 P2
  go_wp2_with fail
  refine (P.ends _ U g [] false w3 P3.out).mono ?_
  rintro e w4 ⟨v4, rfl, he, hb⟩
  have en := he.none
  subst en
  have B4 := Lib.hid (below_next B3.out hb)
  clear he hb B3 P3 GL
  have B4a : Hid (Below w.heap.size w (w4.alloc (.cells #[.int .u8 1] 5))) := B4.out.alloc B4.out.size _
  go_wp2_with fail
  refine (P.new (some ⟨w4.heap.size, 0, none⟩) 1 1 [1] (w4.alloc (.cells #[.int .u8 1] 5)) ⟨rfl, bytes_has w4 [1], (fun h => by cases h), Nat.le_refl _, by omega⟩ (fun i hi => by
    have e : i = 0 := by simp at hi; omega
    subst e; decide)).mono ?_
  rintro e w5 ⟨g', U', rfl, hp, hb⟩
  have GL : Hid (w.heap.size ≤ g') := Nat.le_trans B4a.out.size (P.lt _ _ _ _ _ _ hp).1
  have B5 := Lib.hid (below_next B4a.out hb)
  have P5 := Lib.hid hp
  clear hp hb B4 B4a
  go_wp2_with fail
  refine (P.num_no _ U' g' [1] false 0 9 w5 P5.out (fun i hi => by
    have e : i = 0 := by simp at hi; omega
    subst e; decide) (by simp) (fun h => by have := h.2.1; simp at this)).mono ?_
  rintro e w6 ⟨rfl, ⟨l', _, _, hp⟩, hgr⟩
  have B6 := Lib.hid (below_grown B5.out hgr GL.out)
  have P6 := Lib.hid hp
  clear hp hgr B5 P5
  go_wp2_with fail
  refine (P.ends _ U' g' l' true w6 P6.out).mono ?_
  rintro e w7 ⟨v7, rfl, he, hb⟩
  have E7 : Hid (IsErr 4 v7 w7) := he
  have B7 := Lib.hid (below_next B6.out hb)
  clear he hb B6 P6 GL
  go_wp2_with fail
  refine (num_any 4 v7 w7 (HG.out.below B7.out) E7.out).mono ?_
  rintro e w8 ⟨rfl, hb⟩
  have B8 := Lib.hid (below_next B7.out hb)
  clear hb B7 E7
  go_wp2_with fail
  refine (P.text none 0 0 [] _ w8 (base_nil _) (by decide)).mono ?_
  rw [text_a]
  rintro e w9 ⟨A9, c9, rfl, ho, hb⟩
  have B9 := Lib.hid (below_next B8.out hb)
  have O9 := Lib.hid ho
  clear ho hb B8
  go_wp2_with fail
  refine (sameB_eq A9 (some ⟨w9.heap.size, 0, none⟩) c9 9 9 9 _ _ (w9.alloc (.cells (ints .u8 [0, 0, 0, 0, 0, 0, 0, 1, 97]).toArray 5)) rfl rfl rfl (by simp) (has_next (own_read O9.out) ((Below.refl _ _).alloc (Nat.le_refl _) _)) (bytes_has w9 _)).mono ?_
  rintro e w10 ⟨rfl, hb⟩
  have B10 := Lib.hid (below_next (B9.out.alloc B9.out.size _) hb)
  clear hb B9 O9
  go_wp2
  go_ret
  exact ⟨rfl, B10.out⟩
end Go.Proofs.YtmegjjfgiibobaaDoor
