/- The law CodeBack, walked. -/
import Derived.Test.YtmegjjfgiibobaaDoorCs
namespace Go.Proofs.YtmegjjfgiibobaaDoor
open Go.RowKit Slices Go.Proofs.YtmegjjfgiibobaaDoor.Bit

theorem own_ne_g {t : TypeId} {w : World} {B n g : Nat} {v : Value} {xs : List Value} (h : w.ownsRow B t 1 v n xs) (hg : g < B) : v.ownBlock = none ∨ v.ownBlock ≠ some g := by
  cases hv : v.ownBlock with
  | none => exact .inl rfl
  | some q =>
    refine .inr fun e => ?_
    injection e with e
    have h1 := (h.lt q hv).1
    omega
theorem fit_take {l : List Int} (h : Fit 8 l) (n : Nat) : Fit 8 (l.take n) := fun i hi => by
  rw [List.length_take] at hi
  rw [getD_take l n i (by omega)]
  exact h i (by omega)
theorem text_any_o {pr : Nat → Nat → Nat → List Int → Bool → World → Prop} (P : CodeOk pr) {A : Option Addr} {n c m : Nat} {b : List Int} (s : ByteArray) {w : World} (h1 : Base w A n c b) (l2 : s.size ≤ 4000) (hm : m = n + 8 + s.size) :
    Calls Tryd.prog 12 #[.slice A n c, .string s] w (Out w m (b ++ oneL (strNums s))) := by
  subst hm
  have h := text_any_l P s h1 l2
  unfold oneL
  rw [strNums_len, ← List.append_assoc]
  exact h
theorem base_take {w : World} {A : Option Addr} {n c j : Nat} {l : List Int} (h : Base w A n c l) (hj : j < n) : Base w A j c (l.take j) := by
  obtain ⟨h1, h2, h3, h4, h5⟩ := h
  exact ⟨by rw [List.length_take]; omega, h2.take j, fun e => by have := h3 e; omega, by omega, by omega⟩

set_option maxRecDepth 100000 in
set_option maxHeartbeats 1000000 in
theorem codeBack_big {pr : Nat → Nat → Nat → List Int → Bool → World → Prop} (P : CodeOk pr) (A2 : Option Addr) (n2 c2 : Nat) (n k : Int) (s : ByteArray) (w : World) (b2 : n2 ≤ 4611686018427387904) (b5 : s.size ≤ 4611686018427387904) (h : 200 < n2 ∨ 200 < s.size) (hg : Han w) :
    Calls Tryd.prog 5 #[.int .i64 n, .slice A2 n2 c2, .string s, .int .i64 k] w fun e w' => e = .returned (.bool true) ∧ Below w.heap.size w w' := by
  have HG := Lib.hid hg
  clear hg
  by_cases h1 : 200 < n2
  · clear h
    go_enter Tryd.func5, Tryd.ntmps5
    go_wp2_with (go_at_call 8; refine (awake_any P _ HG.out).mono ?_; rintro e w' ⟨rfl, hb⟩)
    go_ret
    exact ⟨rfl, hb⟩
  · have h2 : 200 < s.size := by omega
    clear h
    go_enter Tryd.func5, Tryd.ntmps5
    go_wp2_with (go_at_call 8; refine (awake_any P _ HG.out).mono ?_; rintro e w' ⟨rfl, hb⟩)
    go_ret
    exact ⟨rfl, hb⟩

set_option maxRecDepth 100000 in
set_option maxHeartbeats 8000000 in
theorem codeBack_small {pr : Nat → Nat → Nat → List Int → Bool → World → Prop} (P : CodeOk pr) (A2 : Option Addr) (n2 c2 : Nat) (n k : Int) (p : List Int) (s : ByteArray) (w : World) (hn : I64 n) (h2 : Base w A2 n2 c2 p) (fp : Fit 8 p) (b2 : n2 ≤ 200) (b5 : s.size ≤ 200) (hg : Han w) :
    Calls Tryd.prog 5 #[.int .i64 n, .slice A2 n2 c2, .string s, .int .i64 k] w fun e w' => e = .returned (.bool true) ∧ Below w.heap.size w w' := by
  have HG := Lib.hid hg
  have H2 := Lib.hid h2
  have E2 := Lib.hid h2.1
  have HI := Lib.hid hn
  obtain ⟨t, ht⟩ : ∃ t, t = strNums s := ⟨_, rfl⟩
  have TL : Hid (s.size = t.length) := by show _ = _; rw [ht, strNums_len]
  have TS : Hid (strOfNums t = s) := by show _ = _; rw [ht, strOf_nums]
  have FT : Hid (Fit 8 t) := by show Fit 8 t; rw [ht]; exact strNums_fit s
  have HT := Lib.hid ht
  obtain ⟨M, hM⟩ : ∃ M, M = 24 + n2 + s.size := ⟨_, rfl⟩
  have M1 : M ≤ 24 + n2 + s.size := by omega
  have M2 : 24 + n2 + s.size ≤ M := by omega
  have FL : Hid (Fit 8 (be8 n ++ oneL p ++ oneL t)) := fit_app (fit_app (be8_fit n) (fit_app (be8_fit _) fp)) (fit_app (be8_fit _) FT.out)
  clear hg h2 hn fp ht hM
  go_enter Tryd.func5, Tryd.ntmps5
  go_wp2_with fail
  refine (num_one0 P n).mono ?_
  rintro e w1 ⟨A5, c5, rfl, ho, hb⟩
  have B1 := Lib.hid hb
  have X1 := Lib.hid (Base.own ho (by omega))
  clear hb ho
  go_wp2_with fail
  refine (bytes_one P X1.out (H2.out.next B1.out) (by omega)).mono ?_
  rintro e w2 ⟨A6, c6, rfl, ho, hb⟩
  have B2 := Lib.hid (below_next B1.out hb)
  have X2 := Lib.hid (Base.own ho (by omega))
  clear hb ho X1 B1
  go_wp2_with fail
  refine (text_any_o P (m := M) s X2.out (by omega) (by omega)).mono ?_
  rw [← HT.out]
  rintro e w3 ⟨A7, c7, rfl, ho, hb⟩
  have B3 := Lib.hid (below_next B2.out hb)
  have X3 := Lib.hid (Base.own ho (by omega))
  clear hb ho X2 B2
  go_wp2_with fail
  refine (P.new A7 M c7 (be8 n ++ oneL p ++ oneL t) w3 X3.out FL.out).mono ?_
  rintro e w4 ⟨g, U, rfl, hp, hb⟩
  have B4 := Lib.hid (below_next B3.out hb)
  have S4 : Hid (w.heap.size ≤ w3.heap.size) := B3.out.size
  have X4 := Lib.hid (X3.out.next hb)
  have R4 := Lib.hid hp
  have G4 := Lib.hid (P.lt _ _ _ _ _ _ hp)
  clear hb hp B3 X3
  go_wp2_with fail
  refine (low_nat k M w4 (by omega) (by omega)).mono ?_
  rintro e w' ⟨j, rfl, hj, rfl⟩
  have j0 : (0 : Int) ≤ (j : Int) := Int.natCast_nonneg _
  have j1 : (j : Int) ≤ (c7 : Int) := by have := X4.out.2.2.2.1; omega
  have JL : Hid (j < (be8 n ++ oneL p ++ oneL t).length) := by have := X4.out.1; show j < _; omega
  have XJ := Lib.hid (base_take X4.out hj)
  go_wp2_with fail
  refine (P.new A7 j c7 ((be8 n ++ oneL p ++ oneL t).take j) w4 XJ.out (fit_take FL.out j)).mono ?_
  rintro e w5 ⟨g', U', rfl, hp, hb⟩
  have B5 := Lib.hid (below_next B4.out hb)
  have S5 : Hid (w.heap.size ≤ w4.heap.size) := B4.out.size
  have Q5 := Lib.hid hp
  have G5 := Lib.hid (P.lt _ _ _ _ _ _ hp)
  have R5 := Lib.hid (P.next R4.out hb)
  have LJ : Hid (((be8 n ++ oneL p ++ oneL t).take j).length ≤ 10000) := by
    show List.length _ ≤ _
    rw [List.length_take]
    omega
  have LL : Hid ((be8 n ++ oneL p ++ oneL t).length ≤ 10000) := by have := X4.out.1; show _ ≤ _; omega
  have GW : Hid (w.heap.size ≤ g) := Nat.le_trans S4.out G4.out.1
  have GW' : Hid (w.heap.size ≤ g') := Nat.le_trans S5.out G5.out.1
  have GU : Hid (g < w4.heap.size) := Nat.lt_of_lt_of_le G4.out.2.1 G4.out.2.2
  clear hb hp B4 R4 X4 XJ j0 j1
  go_wp2_with fail
  refine (P.num_yes _ U g (be8 n ++ oneL p ++ oneL t) n n w5 R5.out FL.out LL.out (by rw [List.append_assoc]; exact rdOk_be HI.out.1 HI.out.2 _ (Int.le_refl _) (Int.le_refl _))).mono ?_
  rw [List.append_assoc, rdX_be HI.out.1 HI.out.2, drop_be]
  rintro e w6 ⟨rfl, hp, hgr⟩
  have B6 := Lib.hid (below_grown B5.out hgr GW.out)
  have R6 := Lib.hid hp
  have Q6 := Lib.hid (P.far Q5.out hgr (fun q hq => by injection hq with hq; have := GU.out; exact .inl (by omega)))
  have FP6 : Hid (Fit 8 (oneL p ++ oneL t)) := by
    have h := fit_drop FL.out 8
    rw [List.append_assoc, drop_be] at h
    exact h
  have L6 : Hid ((oneL p ++ oneL t).length ≤ 10000) := by
    have h := LL.out
    rw [List.append_assoc, List.length_append] at h
    show _ ≤ _
    omega
  have S6 : Hid (w4.heap.size ≤ w6.heap.size) := Nat.le_trans (Nat.le_trans (Nat.le_of_lt G5.out.2.1 |> Nat.le_trans G5.out.1) G5.out.2.2) hgr.size
  have S6' : Hid (g' < w6.heap.size) := Nat.lt_of_lt_of_le (Nat.lt_of_lt_of_le G5.out.2.1 G5.out.2.2) hgr.size
  clear hp hgr B5 R5 Q5
  go_wp2_with fail
  refine (P.bytes_yes _ U g (oneL p ++ oneL t) (n2 : Int) w6 R6.out FP6.out L6.out (rdB_one (by have := E2.out; omega) (by have := E2.out; omega))).mono ?_
  rw [rdX_one p _ (by have := E2.out; omega), Int.toNat_natCast, read_one, drop_one, ← E2.out]
  rintro e w7 ⟨A8, c8, rfl, ho, hp, hgr⟩
  have B7 := Lib.hid (below_grown B6.out hgr GW.out)
  have R7 := Lib.hid hp
  have Q7 := Lib.hid (P.far Q6.out hgr (fun q hq => by injection hq with hq; have := GU.out; exact .inl (by omega)))
  have Y7 := Lib.hid ho
  clear hp hgr ho B6 R6 Q6 FP6 L6
  have RT : Hid (rdBOk (oneL t ++ []) false (s.size : Int)) := rdB_one (by have := TL.out; omega) (by have := TL.out; omega)
  have LT : Hid ((oneL t ++ []).length ≤ 10000) := by have := TL.out; show _ ≤ _; rw [List.append_nil, oneL_len]; omega
  have FO : Hid (Fit 8 (oneL t ++ [])) := by show Fit 8 _; rw [List.append_nil]; exact fit_app (be8_fit _) FT.out
  go_wp2_with fail
  refine (P.text_yes _ U g (oneL t ++ []) (s.size : Int) w7 (by rw [List.append_nil]; exact R7.out) FO.out LT.out RT.out).mono ?_
  rw [rdX_one t _ (by have := TL.out; omega), Int.toNat_natCast, read_one, drop_one, TS.out]
  rintro e w8 ⟨rfl, hp, hgr⟩
  have B8 := Lib.hid (below_grown B7.out hgr GW.out)
  have R8 := Lib.hid hp
  have Q8 := Lib.hid (P.far Q7.out hgr (fun q hq => by injection hq with hq; have := GU.out; exact .inl (by omega)))
  have Y8 := Lib.hid (Y7.out.kept hgr (own_ne_g Y7.out (by have := GU.out; have := S6.out; omega)))
  clear hp hgr B7 R7 Q7 Y7 RT LT FO
  go_wp2_with fail
  refine (P.left _ U g [] false w8 R8.out).mono ?_
  rintro e w9 ⟨rfl, hb⟩
  have B9 := Lib.hid (below_next B8.out hb)
  have R9 := Lib.hid (P.next R8.out hb)
  have Q9 := Lib.hid (P.next Q8.out hb)
  have Y9 := Lib.hid (own_next Y8.out hb)
  clear hb B8 R8 Q8 Y8
  go_wp2_with fail
  refine (P.ends _ U g [] false w9 R9.out).mono ?_
  rintro e w10 ⟨v10, rfl, he, hb⟩
  have en := he.none
  subst en
  have B10 := Lib.hid (below_next B9.out hb)
  have Q10 := Lib.hid (P.next Q9.out hb)
  have Y10 := Lib.hid (own_next Y9.out hb)
  clear hb he B9 R9 Q9 Y9
  go_wp2_with fail
  refine (ask_num P n n Q10.out (fit_take FL.out j) LJ.out).mono ?_
  rintro e w11 ⟨v11, l1, d1, rfl, f1, m1, hp, hgr, k1⟩
  have B11 := Lib.hid (below_grown B10.out hgr GW'.out)
  have Q11 := Lib.hid hp
  have Y11 := Lib.hid (Y10.out.kept hgr (own_ne_g Y10.out S6'.out))
  have F1 := Lib.hid f1
  have K1 := Lib.hid k1
  clear hp hgr f1 k1 B10 Q10 Y10
  go_wp2_with fail
  refine (ask_bytes P 200 Q11.out F1.out m1).mono ?_
  rintro e w12 ⟨v12, l2, d2, rfl, f2, m2, hp, hgr, k2⟩
  have B12 := Lib.hid (below_grown B11.out hgr GW'.out)
  have Q12 := Lib.hid hp
  have Y12 := Lib.hid (Y11.out.kept hgr (own_ne_g Y11.out S6'.out))
  have F2 := Lib.hid f2
  have K2 := Lib.hid k2
  clear hp hgr f2 k2 B11 Q11 Y11
  go_wp2_with fail
  refine (ask_text P 200 Q12.out F2.out m2).mono ?_
  rintro e w13 ⟨v13, l3, d3, rfl, f3, m3, hp, hgr, k3⟩
  have B13 := Lib.hid (below_grown B12.out hgr GW'.out)
  have hd : d3 = true := by
    cases hd3 : d3 with
    | true => rfl
    | false =>
      exfalso
      obtain ⟨q3, _⟩ := k3 hd3
      have e2 : d2 = false := q3.2.1.1
      obtain ⟨q2, z2⟩ := K2.out e2
      have e1 : d1 = false := q2.2.1.1
      obtain ⟨q1, z1⟩ := K1.out e1
      subst e2
      subst e1
      exact cut_bad (by have := E2.out; omega) (by have := TL.out; omega) JL.out q1 z1 q2 z2 q3
  subst hd
  have Q13 := Lib.hid hp
  have Y13 := Lib.hid (Y12.out.kept hgr (own_ne_g Y12.out S6'.out))
  clear hp hgr f3 k3 B12 Q12 Y12 F1 K1 F2 K2 JL LJ
  have T1 := str_same t
  rw [TS.out] at T1
  go_wp2_with fail
  refine (same_yes (Base.own Y13.out (by omega)) (H2.out.next B13.out) rfl).mono ?_
  rintro e w14 ⟨rfl, hb⟩
  have B14 := Lib.hid (below_next B13.out hb)
  have Q14 := Lib.hid (P.next Q13.out hb)
  clear hb B13 Q13 Y13
  go_wp2_with fail
  refine (P.ends _ U' g' l3 true w14 Q14.out).mono ?_
  rintro e w15 ⟨v15, rfl, he, hb⟩
  have B15 := Lib.hid (below_next B14.out hb)
  have E15 : Hid (IsErr 4 v15 w15) := he
  clear hb he B14 Q14
  go_wp2_with fail
  refine (num_any 4 v15 w15 (HG.out.below B15.out) E15.out).mono ?_
  rintro e w16 ⟨rfl, hb⟩
  have B16 := Lib.hid (below_next B15.out hb)
  clear hb B15 E15
  go_wp2_with fail
  refine (P.end_none w16).mono ?_
  rintro e w17 ⟨v17, rfl, he, hb⟩
  have B17 := Lib.hid (below_next B16.out hb)
  have E17 := Lib.hid he
  clear hb he B16
  go_wp2_with fail
  refine (num_any 1 v17 w17 (HG.out.below B17.out) E17.out).mono ?_
  rintro e w18 ⟨rfl, hb⟩
  have B18 := Lib.hid (below_next B17.out hb)
  clear hb B17 E17
  go_wp2_with fail
  refine (P.left_none w18).mono ?_
  rintro e w19 ⟨rfl, hb⟩
  have B19 := Lib.hid (below_next B18.out hb)
  clear hb B18
  go_wp2_with (go_at_call 8; refine (awake_any P w19 (HG.out.below B19.out)).mono ?_; rintro e w20 ⟨rfl, hb⟩; have B20 := Lib.hid (below_next B19.out hb); clear hb)
  go_ret
  exact ⟨rfl, B20.out⟩
end Go.Proofs.YtmegjjfgiibobaaDoor
