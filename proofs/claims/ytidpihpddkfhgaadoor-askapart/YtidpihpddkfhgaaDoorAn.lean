/- The law AskReads, walked. -/
import Derived.Test.YtidpihpddkfhgaaDoorAj
import Derived.Test.YtidpihpddkfhgaaDoorAm
namespace Go.Proofs.YtidpihpddkfhgaaDoor
open Go.RowKit Slices Go.Proofs.YtidpihpddkfhgaaDoor.Bit

set_option maxRecDepth 100000 in
theorem read_one {l : List Int} {a a' : AskV} {x x' y y' : List Int} {k k' : Int} (h : ReadIs l a x y k) (h' : ReadIs l a' x' y' k') : a = a' ∧ x = x' ∧ y = y' ∧ k = k' := by
  rcases h with ⟨h0, rfl, rfl, rfl, rfl⟩ | ⟨h0, h1, h2, rfl, rfl, rfl, rfl⟩ | ⟨h0, h1, h2, rfl, rfl, rfl⟩
  · rcases h' with ⟨_, rfl, rfl, rfl, rfl⟩ | ⟨g0, g1, _⟩ | ⟨g0, g1, _⟩
    · exact ⟨rfl, rfl, rfl, rfl⟩
    · omega
    · omega
  · rcases h' with ⟨g0, _⟩ | ⟨_, _, _, rfl, rfl, rfl, rfl⟩ | ⟨_, _, g2, _⟩
    · omega
    · exact ⟨rfl, rfl, rfl, rfl⟩
    · exact absurd g2 (h2 _)
  · rcases h' with ⟨g0, _⟩ | ⟨_, _, g2, _⟩ | ⟨_, _, g2, rfl, rfl, rfl⟩
    · omega
    · exact absurd h2 (g2 _)
    · refine ⟨?_, rfl, rfl, rfl⟩
      have e := h2.2.symm.trans g2.2
      have h3 := may_takes h2.1
      rw [e, may_takes g2.1] at h3
      injection h3 with h3
      exact h3.symm
set_option maxRecDepth 100000 in
theorem read_bytes {l : List Int} {a : AskV} {x y : List Int} {k : Int} (h : ReadIs l a x y k) : a.bytes.length ≤ 40000 ∧ a.token.length ≤ 40000 ∧ x.length ≤ 40000 ∧ y.length ≤ 40000 := by
  rcases h with ⟨_, rfl, rfl, rfl, _⟩ | ⟨_, _, _, rfl, rfl, rfl, _⟩ | ⟨_, h1, h2, rfl, rfl, _⟩
  · exact ⟨Nat.zero_le _, Nat.zero_le _, Nat.zero_le _, Nat.zero_le _⟩
  · exact ⟨Nat.zero_le _, Nat.zero_le _, Nat.zero_le _, Nat.zero_le _⟩
  · have := may_small h2.1
    refine ⟨by omega, by omega, ?_, ?_⟩
    · unfold bodyOf; rw [List.length_take]; omega
    · unfold sigOf; rw [List.length_drop]; omega
theorem refRead_any (A : Option Addr) (c n : Nat) (l : List Int) (w : World) (hh : Has .u8 w w.heap.size A l) (hn : n = l.length) (hb : n ≤ 40000) (hc : n ≤ c) (hf : Fit 8 l) :
    Calls Tryd.prog 20 #[.slice A n c] w (ReadRef l w) := by
  by_cases hs : n < 2420 ∨ 6000 < n
  · exact refRead_size A c n l w hn hb hs
  · obtain ⟨a, rfl, _⟩ := hh 0 (by omega)
    exact refRead_long a c n (n - 2420) l w hn (by omega) (by omega) hc hh hf
theorem belowOwn {B n : Nat} {w0 w w' : World} {v : Value} {xs : List Value} (h : Below B w0 w) (hg : w.grownBy w' v.ownBlock) (ho : w.ownsRow B 5 1 v n xs) (hB : B ≤ w.heap.size) : Below B w0 w' :=
  h.grown hg hB (fun q hq => (ho.lt q hq).1)
theorem lendB_n (A : Option Addr) (c n : Nat) (l : List Int) (w : World) (hn : n = l.length) (h : Has .u8 w w.heap.size A l) (hA : A = none → n = 0 ∧ c = 0) (hl : n ≤ 40000) :
    Calls Tryd.prog 18 #[.slice A n c] w fun e w' => ∃ g, e = .returned (.slice (some ⟨g, 0, none⟩) n (n + 3)) ∧ LentB w' w.heap.size g l ∧ Below w.heap.size w w' := by
  subst hn
  exact lendB_any A c l w h hA hl
theorem keptB_n (g B n c : Nat) (A : Option Addr) (l : List Int) (w : World) (hn : n = l.length) (h : LentB w B g l) (h' : Has .u8 w w.heap.size A l) (hl : n ≤ 40000) :
    Calls Tryd.prog 22 #[.slice (some ⟨g, 0, none⟩) n (n + 3), .slice A n c] w fun e w' => e = .returned (.bool true) ∧ Below w.heap.size w w' := by
  subst hn
  exact keptB_any g B A c l w h h' hl
theorem overB_n (B c n : Nat) (A : Option Addr) (l : List Int) (w : World) (hn : n = l.length) (h : w.ownsRow B 5 1 (.slice A n c) n (ints .u8 l)) (hB : B ≤ w.heap.size) (hl : n ≤ 40000) :
    Calls Tryd.prog 21 #[.slice A n c] w fun e w' => e = .returned (.tuple #[]) ∧ w.grownBy w' (Value.slice A n c).ownBlock := by
  subst hn
  exact overB_any B c A l w ⟨h, hB⟩ hl
theorem row_dis {W W' : World} {g m B : Nat} {v : Value} {xs : List Value} {V : Array Value} (hr : W.heap[g]? = some (.cells V 24 (0, 0))) (hg : W.grownBy W' v.ownBlock) (ho : W.ownsRow B 5 1 v m xs) : W'.heap[g]? = some (.cells V 24 (0, 0)) := by
  refine (hg.block g (Array.getElem?_eq_some_iff.1 hr).1 (fun e => ?_)).trans hr
  rcases own_ne_ask ho hr with h | h
  · rw [h] at e; cases e
  · exact h e.symm
/-- what is older than a row that is written stands -/
theorem own_old {W W' : World} {B B' n m : Nat} {u v : Value} {xs ys : List Value} (h : W.ownsRow B 5 1 u n xs) (hold : ∀ q, u.ownBlock = some q → q < B') (hg : W.grownBy W' v.ownBlock) (ho : W.ownsRow B' 5 1 v m ys) : W'.ownsRow B 5 1 u n xs := by
  refine h.kept hg ?_
  by_cases e : u.ownBlock = none
  · exact .inl e
  · refine .inr fun e' => ?_
    obtain ⟨q, hq⟩ := Option.ne_none_iff_exists'.1 e
    have h1 := hold q hq
    have h2 := (ho.lt q (by rw [← e', hq])).1
    omega
theorem old_of {W : World} {B n : Nat} {u : Value} {xs : List Value} (h : W.ownsRow B 5 1 u n xs) : ∀ q, u.ownBlock = some q → q < W.heap.size := fun q hq => (h.lt q hq).2
theorem ints_zeros (k : Nat) : ints .u8 (List.replicate k 0) = List.replicate k (Value.int .u8 0) := by simp [ints]
theorem lowA (x : Int) (w : World) : Calls Tryd.prog 17 #[.int .i64 x, .int .i64 3] w fun e w' => ∃ j : Nat, e = .returned (.int .i64 (j : Int)) ∧ j < 3 ∧ w = w' := by
  have h0 : 0 ≤ x % 18446744073709551616 % 3 := Int.emod_nonneg _ (by decide)
  have h1 : x % 18446744073709551616 % 3 < 3 := Int.emod_lt_of_pos _ (by decide)
  have e2 : wrap64 ((IntKind.u64.wrap x).tmod 3) = ((x % 18446744073709551616 % 3).toNat : Int) := by
    have e : IntKind.u64.wrap x = x % 18446744073709551616 := by simp [IntKind.wrap, IntKind.bits, IntKind.signed]
    rw [e, Int.tmod_eq_emod_of_nonneg (by omega)]
    unfold wrap64
    omega
  go_enter Tryd.func17, Tryd.ntmps17
  go_wp2
  go_ret
  exact ⟨_, ret_int e2, by omega, rfl⟩
theorem fit_app2 {l r : List Int} (h : Fit 8 l) (h' : Fit 8 r) : Fit 8 (l ++ r) := fun i hi => by
  rw [List.length_append] at hi
  rw [List.getD_eq_getElem?_getD]
  by_cases h1 : i < l.length
  · rw [List.getElem?_append_left h1, ← List.getD_eq_getElem?_getD]; exact h i h1
  · rw [List.getElem?_append_right (by omega), ← List.getD_eq_getElem?_getD]; exact h' _ (by omega)
theorem fit_zeros (k : Nat) : Fit 8 (List.replicate k (0 : Int)) := fun i hi => by
  rw [List.length_replicate] at hi
  rw [List.getD_eq_getElem?_getD, List.getElem?_replicate, if_pos hi]
  exact ⟨by decide, by decide⟩
theorem fit_all {l z s : List Int} (h : Fit 8 l) (h2 : Fit 8 z) (h3 : Fit 8 s) : Fit 8 (l ++ z ++ s) := fit_app2 (fit_app2 h h2) h3
set_option maxRecDepth 100000 in
set_option maxHeartbeats 1000000 in
theorem askReads_big (P : AskOk) (A0 A1 : Option Addr) (n0 c0 n1 c1 : Nat) (x : Int) (w : World) (b0 : n0 ≤ 4611686018427387904) (b1 : n1 ≤ 4611686018427387904) (h : 4500 < n0 ∨ 300 < n1) (hg : Han w) :
    Calls Tryd.prog 4 #[.slice A0 n0 c0, .slice A1 n1 c1, .int .i64 x] w fun e w' => e = .returned (.bool true) ∧ Below w.heap.size w w' := by
  have HG := Lib.hid hg
  clear hg
  rcases (show 4500 < n0 ∨ (n0 ≤ 4500 ∧ 300 < n1) by omega) with h1 | ⟨h1, h2⟩
  all_goals
    clear h
    go_enter Tryd.func4, Tryd.ntmps4
    go_wp2_with fail
    refine (awake_any P _ HG.out).mono ?_
    rintro e w1 ⟨rfl, hb⟩
    have HB := Lib.hid hb
    clear hb
    go_wp2
    go_ret
    exact ⟨rfl, HB.out⟩

set_option maxRecDepth 100000 in
set_option maxHeartbeats 8000000 in
theorem askReads_small (P : AskOk) (A0 A1 : Option Addr) (n0 c0 n1 c1 : Nat) (l0 l1 : List Int) (x : Int) (w : World) (h0 : Has .u8 w w.heap.size A0 l0) (e0 : n0 = l0.length) (k0 : A0 = none → n0 = 0 ∧ c0 = 0) (f0 : Fit 8 l0)
    (h1 : Has .u8 w w.heap.size A1 l1) (e1 : n1 = l1.length) (k1 : A1 = none → n1 = 0 ∧ c1 = 0) (f1 : Fit 8 l1) (b0 : n0 ≤ 4500) (b1 : n1 ≤ 300) (hg : Han w) :
    Calls Tryd.prog 4 #[.slice A0 n0 c0, .slice A1 n1 c1, .int .i64 x] w fun e w' => e = .returned (.bool true) ∧ Below w.heap.size w w' := by
  obtain ⟨i0, hi0, hz0, hz1, hz2⟩ := info_parts Tryd.info5
  have HI : Hid ((Tryd.prog.info? 24).map (·.size) = some 14) := by show _ = _; kernel_rfl
  have HG := Lib.hid hg
  have H0 := Lib.hid h0
  have H1 := Lib.hid h1
  have HE0 := Lib.hid e0
  have HE1 := Lib.hid e1
  have HK0 := Lib.hid k0
  have HK1 := Lib.hid k1
  have HF0 := Lib.hid f0
  have HF1 := Lib.hid f1
  clear hg h0 h1 e0 e1 k0 k1 f0 f1
  go_enter Tryd.func4, Tryd.ntmps4
  go_wp2_with fail
  refine (pSizes_1 _).mono ?_
  rintro e w1 ⟨rfl, hb⟩
  have B1 := Lib.hid hb
  have hs1 := hb.size
  clear hb
  go_wp2_with (at_builtin; refine append_any _ rfl _ _ 22 rfl w.heap.size 5 i0 (.int .u8 0) 1 1 Tryd.underlying22 hi0 hz0 hz1 hz2 rfl (by decide) _ 0 [] rfl (World.ownsRow_nil _ _ _ _) A0 n0 c0 (ints .u8 l0) rfl (by rw [ints_length, HE0.out, Nat.mul_one]) HK0.out (has_next H0.out B1.out).cells (ints_one _ _) (by unfold maxLen; omega) (by omega) hs1 ?_; intro v2 w2 hown hgr; have O2 := Lib.hid hown; have G2 := Lib.hid hgr; clear hown hgr)
  have B2 := Lib.hid (B1.out.grown G2.out hs1 (fun q hq => by cases hq))
  have o2 : w2.ownsRow w.heap.size 5 1 v2 n0 (ints .u8 l0) := by have := O2.out; rwa [List.nil_append, Nat.zero_add] at this
  have P2 := Lib.hid o2
  clear o2 O2 G2 B1 hs1
  refine (lowA x w2).mono ?_
  rintro e w3 ⟨j, rfl, hj, rfl⟩
  obtain ⟨K, hK⟩ : ∃ K : Nat, 2420 - (n1 : Int) - (j : Int) = (K : Int) := ⟨2420 - n1 - j, by omega⟩
  have hK0 : 0 < K := by omega
  have hK1 : K ≤ 2420 := by omega
  have HKK : Hid (K + n1 + j = 2420) := by show _ = _; omega
  have hs2 := B2.out.size
  go_wp2_with (first
    | (refine append_zeros _ rfl _ _ 22 3 rfl w.heap.size 5 i0 .i64 .i64 Tryd.underlying22 Tryd.underlying3 hi0 hz0 hz1 hz2 v2 n0 (ints .u8 l0) rfl P2.out K rfl (by omega) hs2 ?_; intro v4 w4 hown hgr; have O4 := Lib.hid hown; have B4 := Lib.hid (belowOwn B2.out hgr P2.out hs2); clear hown hgr)
    | (at_builtin; refine append_any _ rfl _ _ 22 rfl w.heap.size 5 i0 (.int .u8 0) 1 1 Tryd.underlying22 hi0 hz0 hz1 hz2 rfl (by decide) _ (n0 + K) _ rfl O4.out A1 n1 c1 (ints .u8 l1) rfl (by rw [ints_length, HE1.out, Nat.mul_one]) HK1.out (has_next H1.out B4.out).cells (ints_one _ _) (by unfold maxLen; omega) (by omega) B4.out.size ?_; intro v5 w5 hown hgr; have O5 := Lib.hid hown; have B5 := Lib.hid (belowOwn B4.out hgr O4.out B4.out.size); clear hown hgr))
  obtain ⟨L, hL⟩ : ∃ L, L = l0 ++ List.replicate K 0 ++ l1 := ⟨_, rfl⟩
  obtain ⟨N, hN⟩ : ∃ N, N = n0 + K + n1 := ⟨_, rfl⟩
  have HN : Hid (N = L.length) := by show N = L.length; rw [hN, hL, List.length_append, List.length_append, List.length_replicate, HE0.out, HE1.out]
  have HF : Hid (Fit 8 L) := by show Fit 8 L; rw [hL]; exact fit_all HF0.out (fit_zeros K) HF1.out
  have P5 : Hid (w5.ownsRow w.heap.size 5 1 v5 N (ints .u8 L)) := by
    show World.ownsRow _ _ _ _ _ _ _
    rw [hL, hN, ints_app, ints_app, ints_zeros]
    exact O5.out
  have hNb : N ≤ 7300 := by omega
  clear O5 O4 B4 P2 B2 hL hN hs2 hK hK0 hK1 HKK H0 H1 HE0 HE1 HK0 HK1 HF0 HF1
  obtain ⟨A5, c5, rfl⟩ := own_slice P5.out
  refine (lendB_n A5 c5 N L w5 HN.out (own_readn HN.out P5.out) (own_none P5.out) (by omega)).mono ?_
  rintro e w6 ⟨g6, rfl, hl, hb⟩
  have B6 := Lib.hid (below_next B5.out hb)
  have P6 := Lib.hid (own_next P5.out hb)
  have L6 := Lib.hid hl
  clear hl hb B5 P5
  go_wp2_with fail
  refine (P.read (some ⟨g6, 0, none⟩) N (N + 3) L w6 (lentB_has L6.out) HN.out (by omega) (fun h => by cases h) (by omega) HF.out).mono ?_
  rintro e w7 ⟨a, x1, y1, k, D1, d1, D2, d2, X, cx, Y, cy, v, hr, rfl, he, hin, oA, oX, oY, dYX, dAX, dAY, hb⟩
  have HR := Lib.hid hr
  have HE := Lib.hid he
  have HIN := Lib.hid hin
  have OA := Lib.hid oA
  have OX := Lib.hid oX
  have OY := Lib.hid oY
  have DYX := Lib.hid dYX
  have DAX := Lib.hid dAX
  have DAY := Lib.hid dAY
  have B7 := Lib.hid (below_next B6.out hb)
  have P7 := Lib.hid (own_next P6.out hb)
  have L7 : Hid (LentB w7 w5.heap.size g6 L) := own_next L6.out hb
  have S67 : Hid (w6.heap.size ≤ w7.heap.size) := hb.size
  have O66 := Lib.hid (old_of P6.out)
  have OL6 := Lib.hid (old_of L6.out)
  have S06 : Hid (w.heap.size ≤ w6.heap.size) := B6.out.size
  clear hr he hin oA oX oY dYX dAX dAY hb B6 P6 L6
  have HOV := Lib.hid (vals_one a D1 d1 D2 d2)
  obtain ⟨V, hV⟩ : ∃ V, V = askVals a D1 d1 D2 d2 := ⟨_, rfl⟩
  have HV : Hid (V = askVals a D1 d1 D2 d2) := hV
  have hv14 : V.size = 14 := by rw [hV]; rfl
  rw [← hV] at HOV ⊢
  clear hV
  go_wp2_with (refine wpList_store_row rfl 24 _ _ rfl w7.heap.size V rfl rfl 24 _ (heap_alloc_new w7 _) (by rw [hv14]; exact HI.out) (by rw [hv14]; rfl) HOV.out ?_)
  have Z8 := Lib.hid (below_new_row w7 zeroV 24 V)
  have R8 := Lib.hid (setRow_heap _ _ _ V _ _ (heap_alloc_new w7 (.cells zeroV 24)))
  unfold zeroV at Z8 R8
  generalize (w7.alloc (.cells #[.int .i64 0, .int .i64 0, .int .i64 0, .int .i64 0, .int .i64 0, .int .i64 0, .int .i64 0, .int .i64 0, .int .i64 0, .int .i64 0, .int .i64 0, .string { data := #[] }, .slice none 0 0, .slice none 0 0] 24)).setRow w7.heap.size V = w8 at Z8 R8 ⊢
  obtain ⟨g8, hg8⟩ : ∃ g8, g8 = w7.heap.size := ⟨_, rfl⟩
  rw [← hg8] at R8 ⊢
  have P8 := Lib.hid (own_next P7.out Z8.out)
  refine (refRead_any A5 c5 N L w8 (own_readn HN.out P8.out) HN.out (by omega) (own_capA P8.out) HF.out).mono ?_
  rintro e w9 ⟨a', x1', y1', k', F1, f1, F2, f2, X', cx', Y', cy', hr', rfl, hin', hX', hY', hb⟩
  obtain ⟨rfl, rfl, rfl, rfl⟩ := read_one HR.out hr'
  have Z9 := Lib.hid (below_next Z8.out hb)
  have R9 := Lib.hid (row_below R8.out hb)
  have HIN' := Lib.hid hin'
  have HX' := Lib.hid hX'
  have HY' := Lib.hid hY'
  clear hr' hin' hX' hY' hb hg8 P8 Z8 R8
  have HOU := Lib.hid (vals_one a F1 f1 F2 f2)
  obtain ⟨U, hU⟩ : ∃ U, U = askVals a F1 f1 F2 f2 := ⟨_, rfl⟩
  have HU : Hid (U = askVals a F1 f1 F2 f2) := hU
  have hu14 : U.size = 14 := by rw [hU]; rfl
  rw [← hU] at HOU ⊢
  clear hU
  go_wp2_with (first
    | (refine wpList_store_row rfl 24 _ _ rfl w9.heap.size U rfl rfl 24 _ (heap_alloc_new w9 _) (by rw [hu14]; exact HI.out) (by rw [hu14]; rfl) HOU.out ?_; have Z10 := Lib.hid (below_new_row w9 zeroV 24 U); have R10 := Lib.hid (setRow_heap _ _ _ U _ _ (heap_alloc_new w9 (.cells zeroV 24))); unfold zeroV at Z10 R10; generalize (w9.alloc (.cells #[.int .i64 0, .int .i64 0, .int .i64 0, .int .i64 0, .int .i64 0, .int .i64 0, .int .i64 0, .int .i64 0, .int .i64 0, .int .i64 0, .int .i64 0, .string { data := #[] }, .slice none 0 0, .slice none 0 0] 24)).setRow w9.heap.size U = w10 at Z10 R10 ⊢; have R10a := Lib.hid (row_below R9.out Z10.out))
    | (with_reducible refine wpList_load_row rfl 24 _ rfl g8 rfl 24 V (0, 0) _ R10a.out Tryd.underlying24 rfl (by rw [hv14]; exact HI.out) ?_)
    | (refine wpList_load_row rfl 24 _ rfl w9.heap.size rfl 24 U (0, 0) _ R10.out Tryd.underlying24 rfl (by rw [hu14]; exact HI.out) ?_))
  obtain ⟨s1, s2, s3, s4⟩ := read_bytes HR.out
  rw [HV.out, HU.out]
  have HINa : Hid (AskIn w10 w10.heap.size a D1 d1 D2 d2) := HIN.out.next (below_next Z9.out Z10.out)
  have HINb : Hid (AskIn w10 w10.heap.size a F1 f1 F2 f2) := HIN'.out.next Z10.out
  refine (sameA_any a a D1 D2 F1 F2 d1 d2 f1 f2 w10 HINa.out HINb.out s1 s2 s1 s2).mono ?_
  rw [sameV_self a, ← HV.out, ← HU.out]
  rintro e w11 ⟨rfl, hb⟩
  have Z11 := Lib.hid (below_next (below_next Z9.out Z10.out) hb)
  have Y11 := Lib.hid (below_next Z10.out hb)
  have R11 := Lib.hid (row_below R10a.out hb)
  clear hb Z9 Z10 R9 R10 R10a HINa HINb HIN HIN'
  go_wp2_with fail
  refine (sameB_eq X X' cx cx' _ _ x1 x1 w11 rfl rfl rfl s3 (own_read (own_next OX.out Z11.out)) (has_next HX'.out Y11.out)).mono ?_
  rintro e w12 ⟨rfl, hb⟩
  have Z12 := Lib.hid (below_next Z11.out hb)
  have Y12 := Lib.hid (below_next Y11.out hb)
  have R12 := Lib.hid (row_below R11.out hb)
  clear hb Z11 Y11 R11
  go_wp2_with fail
  refine (sameB_eq Y Y' cy cy' _ _ y1 y1 w12 rfl rfl rfl s4 (own_read (own_next OY.out Z12.out)) (has_next HY'.out Y12.out)).mono ?_
  rintro e w13 ⟨rfl, hb⟩
  have Z13 := Lib.hid (below_next Z12.out hb)
  have R13 := Lib.hid (row_below R12.out hb)
  clear hb Z12 Y12 R12
  go_wp2_with fail
  refine (num_any k v w13 (Han.below HG.out (below_next B7.out Z13.out)) (HE.out.next Z13.out)).mono ?_
  rintro e w14 ⟨rfl, hb⟩
  have Z14 := Lib.hid (below_next Z13.out hb)
  have R14 := Lib.hid (row_below R13.out hb)
  have B14 := Lib.hid (below_next B7.out Z14.out)
  have OX14 := Lib.hid (own_next OX.out Z14.out)
  have OY14 := Lib.hid (own_next OY.out Z14.out)
  have OA14 := Lib.hid (own_next OA.out Z14.out)
  have P14 := Lib.hid (own_next P7.out Z14.out)
  have L14 : Hid (LentB w14 w5.heap.size g6 L) := own_next L7.out Z14.out
  have S14 : Hid (w6.heap.size ≤ w14.heap.size) := Nat.le_trans S67.out Z14.out.size
  clear hb Z13 R13 OX OY OA P7 L7 B7 HE
  go_wp2_with fail
  refine (overB_n w6.heap.size cx x1.length X x1 w14 rfl OX14.out S14.out s3).mono ?_
  rintro e w15 ⟨rfl, hg⟩
  have OY15 := Lib.hid (own_dis OY14.out hg DYX.out)
  have OA15 := Lib.hid (own_dis OA14.out hg DAX.out)
  have P15 := Lib.hid (own_old P14.out O66.out hg OX14.out)
  have L15 : Hid (LentB w15 w5.heap.size g6 L) := own_old L14.out OL6.out hg OX14.out
  have R15 := Lib.hid (row_dis R14.out hg OX14.out)
  have B15 := Lib.hid (belowOwn B14.out hg (own_down OX14.out S06.out) B14.out.size)
  have S15 : Hid (w6.heap.size ≤ w15.heap.size) := Nat.le_trans S14.out hg.size
  clear hg OX14 OY14 OA14 P14 L14 R14 B14 S14
  go_wp2_with fail
  refine (overB_n w6.heap.size cy y1.length Y y1 w15 rfl OY15.out S15.out s4).mono ?_
  rintro e w16 ⟨rfl, hg⟩
  have OA16 := Lib.hid (own_dis OA15.out hg DAY.out)
  have P16 := Lib.hid (own_old P15.out O66.out hg OY15.out)
  have L16 : Hid (LentB w16 w5.heap.size g6 L) := own_old L15.out OL6.out hg OY15.out
  have R16 := Lib.hid (row_dis R15.out hg OY15.out)
  have B16 := Lib.hid (belowOwn B15.out hg (own_down OY15.out S06.out) B15.out.size)
  have S16 : Hid (w6.heap.size ≤ w16.heap.size) := Nat.le_trans S15.out hg.size
  have k12 : w16.cell? ⟨g8, 12, none⟩ = some (.slice D1 a.bytes.length d1) := by
    have h := R16.out
    rw [HV.out] at h
    exact cell_of_row _ _ 12 _ _ _ h
  clear hg OY15 OA15 P15 L15 R15 B15 S15
  go_wp2_with fail
  refine (overB_n w6.heap.size d1 a.bytes.length D1 a.bytes w16 rfl OA16.out S16.out s1).mono ?_
  rintro e w17 ⟨rfl, hg⟩
  have P17 := Lib.hid (own_old P16.out O66.out hg OA16.out)
  have L17 : Hid (LentB w17 w5.heap.size g6 L) := own_old L16.out OL6.out hg OA16.out
  have B17 := Lib.hid (belowOwn B16.out hg (own_down OA16.out S06.out) B16.out.size)
  clear hg OA16 P16 L16 R16 B16 S16 k12
  go_wp2_with fail
  refine (keptB_n g6 w5.heap.size N c5 A5 L w17 HN.out L17.out (own_readn HN.out P17.out) (by omega)).mono ?_
  rintro e w18 ⟨rfl, hb⟩
  have B18 := Lib.hid (below_next B17.out hb)
  clear hb P17 L17 B17
  go_wp2_with fail
  refine (awake_any P _ (Han.below HG.out B18.out)).mono ?_
  rintro e w19 ⟨rfl, hb⟩
  have B19 := Lib.hid (below_next B18.out hb)
  clear hb
  go_wp2
  go_ret
  exact ⟨rfl, B19.out⟩
end Go.Proofs.YtidpihpddkfhgaaDoor
