/- The laws NoncesTell, NoncesTurn and NoncesWindow, walked. -/
import Derived.Test.YtlikjchaamimcaaDoorNd
namespace Go.Proofs.YtlikjchaamimcaaDoor
open Go.RowKit Slices

set_option maxRecDepth 100000 in
set_option maxHeartbeats 1000000 in
theorem noncesTell_any (P : NoncesOk) (h : Int) (u : Nat) (n : Int) (w : World) (hh : I64 h) (hu : u < 2 ^ 64) (hn : I64 n) (hg : Han w) :
    Calls Tryd.prog 3 #[.int .i64 h, .int .u64 u, .int .i64 n] w fun e w' => e = .returned (.bool true) ∧ Below w.heap.size w w' := by
  have HG := Lib.hid hg
  have HH := Lib.hid hh
  have HU := Lib.hid hu
  have HN := Lib.hid hn
  clear hg hh hu hn
  go_enter Tryd.func3, Tryd.ntmps3
  go_wp2_with fail
  refine (P.use h u n w HH.out HU.out HN.out).mono ?_
  rintro e w1 ⟨v, rfl, he, hb⟩
  have E1 := Lib.hid he
  have B1 := Lib.hid hb
  clear he hb
  go_wp2_with fail
  refine (refUse_any h u n w1 HH.out HU.out HN.out).mono ?_
  rintro e w2 ⟨rfl, hb⟩
  have E2 := Lib.hid (E1.out.next hb)
  have B2 := Lib.hid (below_next B1.out hb)
  clear E1 hb B1
  generalize useH h u n = H
  generalize useW h u n = U
  generalize useE h u n = C at E2 ⊢
  go_wp2_with fail
  refine (num_any C v w2 (HG.out.below B2.out) E2.out).mono ?_
  rintro e w3 ⟨rfl, hb⟩
  have B3 := Lib.hid (below_next B2.out hb)
  clear hb B2 E2
  go_wp2_with fail
  refine (P.may h u w3 HH.out HU.out).mono ?_
  rintro e w4 ⟨rfl, hb⟩
  have B4 := Lib.hid (below_next B3.out hb)
  clear hb B3
  go_wp2_with fail
  refine (refMay_any h u w4 HH.out HU.out).mono ?_
  rintro e w5 ⟨rfl, rfl⟩
  generalize mayC h u = M
  go_wp2_with fail
  refine (P.fresh h u n w4 HH.out HU.out HN.out).mono ?_
  rintro e w6 ⟨rfl, hb⟩
  have B6 := Lib.hid (below_next B4.out hb)
  clear hb B4
  go_wp2_with fail
  refine (refFresh_any h u n w6 HH.out HU.out HN.out).mono ?_
  rintro e w7 ⟨rfl, rfl⟩
  generalize freshC h u n = F
  go_wp2_with fail
  refine (awake_any P w6 (HG.out.below B6.out)).mono ?_
  rintro e w8 ⟨rfl, hb⟩
  have B8 := Lib.hid (below_next B6.out hb)
  clear hb B6
  go_wp2
  go_ret
  exact ⟨rfl, B8.out⟩

theorem err_ne {c : Int} {v : Value} {w : World} (h : IsErr c v w) (h0 : c ≠ 0) : ∃ p, v = .iface 49 (.pointer (some p)) := h.some h0

set_option maxRecDepth 100000 in
set_option maxHeartbeats 1000000 in
theorem noncesTurn_any (P : NoncesOk) (h : Int) (u : Nat) (a b : Int) (w : World) (hh : I64 h) (hu : u < 2 ^ 64) (ha : I64 a) (hb : I64 b) (hg : Han w) :
    Calls Tryd.prog 5 #[.int .i64 h, .int .u64 u, .int .i64 a, .int .i64 b] w fun e w' => e = .returned (.bool true) ∧ Below w.heap.size w w' := by
  have HG := Lib.hid hg
  have HH := Lib.hid hh
  have HU := Lib.hid hu
  have HA := Lib.hid ha
  have HB := Lib.hid hb
  clear hg hh hu ha hb
  by_cases fa : FreshN h u a
  · have FA := Lib.hid (freshC_yes fa)
    by_cases fb : FreshN h u b
    · have FB := Lib.hid (freshC_yes fb)
      have a1 := fa.lo
      have a2 := fa.hi
      have b1 := fb.lo
      have b2 := fb.hi
      by_cases hne : a = b
      · subst hne
        have t0 : (a == a) = true := by simp
        clear fa fb FB
        go_enter Tryd.func5, Tryd.ntmps5
        go_wp2_with fail
        refine (P.fresh h u a w HH.out HU.out HA.out).mono ?_
        rw [FA.out]
        rintro e w1 ⟨rfl, hb⟩
        have B1 := Lib.hid hb
        clear hb
        go_wp2_with fail
        refine (P.fresh h u a w1 HH.out HU.out HA.out).mono ?_
        rw [FA.out]
        rintro e w2 ⟨rfl, hb⟩
        have B2 := Lib.hid (below_next B1.out hb)
        clear hb B1
        go_wp2_with fail
        refine (awake_any P w2 (HG.out.below B2.out)).mono ?_
        rintro e w3 ⟨rfl, hb⟩
        have B3 := Lib.hid (below_next B2.out hb)
        clear hb B2
        go_wp2
        go_ret
        exact ⟨rfl, B3.out⟩
      · have t0 : (a == b) = false := by rw [beq_eq_false_iff_ne]; exact hne
        by_cases hd : 64 ≤ a - b ∨ 64 ≤ b - a
        · have FA' := FA
          clear fa fb
          go_enter Tryd.func5, Tryd.ntmps5
          go_wp2_with fail
          refine (P.fresh h u a w HH.out HU.out HA.out).mono ?_
          rw [FA.out]
          rintro e w1 ⟨rfl, hb⟩
          have B1 := Lib.hid hb
          clear hb
          go_wp2_with fail
          refine (P.fresh h u b w1 HH.out HU.out HB.out).mono ?_
          rw [FB.out]
          rintro e w2 ⟨rfl, hb⟩
          have B2 := Lib.hid (below_next B1.out hb)
          clear hb B1
          by_cases hd1 : 64 ≤ a - b
          · clear hd
            go_wp2_with fail
            refine (awake_any P w2 (HG.out.below B2.out)).mono ?_
            rintro e w3 ⟨rfl, hb⟩
            have B3 := Lib.hid (below_next B2.out hb)
            clear hb B2
            go_wp2
            go_ret
            exact ⟨rfl, B3.out⟩
          · have hd2 : 64 ≤ b - a := by omega
            clear hd
            go_wp2_with fail
            refine (awake_any P w2 (HG.out.below B2.out)).mono ?_
            rintro e w3 ⟨rfl, hb⟩
            have B3 := Lib.hid (below_next B2.out hb)
            clear hb B2
            go_wp2
            go_ret
            exact ⟨rfl, B3.out⟩
        · have d1 : a - b < 64 := by omega
          have d2 : b - a < 64 := by omega
          have gb := fa.stays fb hne d1
          have ga := fb.stays fa (Ne.symm hne) d2
          have eU := use_turn fa fb hne d1 d2
          have eH := max_turn h a b
          have HFA := Lib.hid fa
          have HFB := Lib.hid fb
          have HGA := Lib.hid ga
          have HGB := Lib.hid gb
          have m1 := fa.use
          have m2 := fb.use
          have M1 : Hid (I64 (max h a)) := i64_of m1.lo m1.hi
          have M2 : Hid (I64 (max h b)) := i64_of m2.lo m2.hi
          have V1 := Lib.hid m1.fit
          have V2 := Lib.hid m2.fit
          obtain ⟨X, hX⟩ : ∃ X, X = max (max h b) a := ⟨_, rfl⟩
          obtain ⟨Y, hY⟩ : ∃ Y, Y = useU (max h b) (useU h u b) a := ⟨_, rfl⟩
          have X1 := Lib.hid (eH.trans hX.symm)
          have X2 := Lib.hid hX.symm
          have Y1 := Lib.hid (eU.trans hY.symm)
          have Y2 := Lib.hid hY.symm
          clear fa fb ga gb eU eH m1 m2 hd hX hY
          go_enter Tryd.func5, Tryd.ntmps5
          go_wp2_with fail
          refine (P.fresh h u a w HH.out HU.out HA.out).mono ?_
          rw [FA.out]
          rintro e w1 ⟨rfl, hb⟩
          have B1 := Lib.hid hb
          clear hb
          go_wp2_with fail
          refine (P.fresh h u b w1 HH.out HU.out HB.out).mono ?_
          rw [FB.out]
          rintro e w2 ⟨rfl, hb⟩
          have B2 := Lib.hid (below_next B1.out hb)
          clear hb B1
          go_wp2_with fail
          refine (P.use h u a w2 HH.out HU.out HA.out).mono ?_
          rw [useH_yes HFA.out, useW_yes HFA.out, useE_yes HFA.out]
          rintro e w3 ⟨v, rfl, he, hb⟩
          obtain rfl := he.none
          have B3 := Lib.hid (below_next B2.out hb)
          clear hb he B2
          go_wp2_with fail
          refine (P.use h u b w3 HH.out HU.out HB.out).mono ?_
          rw [useH_yes HFB.out, useW_yes HFB.out, useE_yes HFB.out]
          rintro e w4 ⟨v, rfl, he, hb⟩
          obtain rfl := he.none
          have B4 := Lib.hid (below_next B3.out hb)
          clear hb he B3
          go_wp2_with fail
          refine (P.use (max h a) (useU h u a) b w4 M1.out V1.out HB.out).mono ?_
          rw [useH_yes HGB.out, useW_yes HGB.out, useE_yes HGB.out, X1.out, Y1.out]
          rintro e w5 ⟨v, rfl, he, hb⟩
          obtain rfl := he.none
          have B5 := Lib.hid (below_next B4.out hb)
          clear hb he B4
          go_wp2_with fail
          refine (P.use (max h b) (useU h u b) a w5 M2.out V2.out HA.out).mono ?_
          rw [useH_yes HGA.out, useW_yes HGA.out, useE_yes HGA.out, X2.out, Y2.out]
          rintro e w6 ⟨v, rfl, he, hb⟩
          obtain rfl := he.none
          have B6 := Lib.hid (below_next B5.out hb)
          clear hb he B5
          go_wp2_with fail
          refine (awake_any P w6 (HG.out.below B6.out)).mono ?_
          rintro e w7 ⟨rfl, hb⟩
          have B7 := Lib.hid (below_next B6.out hb)
          clear hb B6
          go_wp2
          go_ret
          exact ⟨rfl, B7.out⟩
    · have FB := Lib.hid (freshC_no fb)
      clear fa fb
      go_enter Tryd.func5, Tryd.ntmps5
      go_wp2_with fail
      refine (P.fresh h u a w HH.out HU.out HA.out).mono ?_
      rw [FA.out]
      rintro e w1 ⟨rfl, hb⟩
      have B1 := Lib.hid hb
      clear hb
      go_wp2_with fail
      refine (P.fresh h u b w1 HH.out HU.out HB.out).mono ?_
      rw [FB.out]
      rintro e w2 ⟨rfl, hb⟩
      have B2 := Lib.hid (below_next B1.out hb)
      clear hb B1
      go_wp2_with fail
      refine (awake_any P w2 (HG.out.below B2.out)).mono ?_
      rintro e w3 ⟨rfl, hb⟩
      have B3 := Lib.hid (below_next B2.out hb)
      clear hb B2
      go_wp2
      go_ret
      exact ⟨rfl, B3.out⟩
  · have FA := Lib.hid (freshC_no fa)
    clear fa
    go_enter Tryd.func5, Tryd.ntmps5
    go_wp2_with fail
    refine (P.fresh h u a w HH.out HU.out HA.out).mono ?_
    rw [FA.out]
    rintro e w1 ⟨rfl, hb⟩
    have B1 := Lib.hid hb
    clear hb
    go_wp2_with fail
    refine (awake_any P w1 (HG.out.below B1.out)).mono ?_
    rintro e w2 ⟨rfl, hb⟩
    have B2 := Lib.hid (below_next B1.out hb)
    clear hb B1
    go_wp2
    go_ret
    exact ⟨rfl, B2.out⟩

set_option maxRecDepth 100000 in
set_option maxHeartbeats 1000000 in
theorem noncesWindow_any (P : NoncesOk) (h : Int) (u : Nat) (n k : Int) (w : World) (hh : I64 h) (hu : u < 2 ^ 64) (hn : I64 n) (hg : Han w) :
    Calls Tryd.prog 6 #[.int .i64 h, .int .u64 u, .int .i64 n, .int .i64 k] w fun e w' => e = .returned (.bool true) ∧ Below w.heap.size w w' := by
  have HG := Lib.hid hg
  have HH := Lib.hid hh
  have HU := Lib.hid hu
  have HN := Lib.hid hn
  clear hg hh hu hn
  by_cases f : FreshN h u n
  · have HF := Lib.hid f
    have m := f.use
    have n1 := f.lo
    obtain ⟨X, hX⟩ : ∃ X, X = max h n := ⟨_, rfl⟩
    obtain ⟨Y, hY⟩ : ∃ Y, Y = useU h u n := ⟨_, rfl⟩
    have t1 := f.took
    have t2 := f.top
    rw [← hX] at t1 t2
    rw [← hY] at t1 t2
    rw [← hX, ← hY] at m
    have x1 : 1 ≤ X := by omega
    have x2 := m.hi
    have M := Lib.hid m
    have X1 := Lib.hid hX.symm
    have Y1 := Lib.hid hY.symm
    have T1 := Lib.hid (freshC_no t1)
    have T2 := Lib.hid (freshC_no t2)
    clear f m hX hY t1 t2
    go_enter Tryd.func6, Tryd.ntmps6
    go_wp2_with fail
    refine (P.use h u n w HH.out HU.out HN.out).mono ?_
    rw [useH_yes HF.out, useW_yes HF.out, useE_yes HF.out, X1.out, Y1.out]
    rintro e w1 ⟨v, rfl, he, hb⟩
    obtain rfl := he.none
    have B1 := Lib.hid hb
    clear hb he
    go_wp2_with fail
    refine (low_some k 1000 w1 (by decide) (by decide)).mono ?_
    rintro e w2 ⟨z, rfl, z0, z1, rfl⟩
    have S1 : Hid (freshC X Y (X - 64 - z) = false) := freshC_no (not_fresh_old (by omega))
    have S2 : Hid (freshC X Y (X + 1 + z) = decide (X + 1 + z ≤ 1099511627776)) := by
      by_cases q : X + 1 + z ≤ 1099511627776
      · rw [decide_eq_true q]
        exact freshC_yes (fresh_above M.out (by omega) q)
      · rw [decide_eq_false q]
        exact freshC_no fun f => q f.hi
    have I0 : Hid (I64 X) := i64_of (by omega) (by omega)
    have I1 : Hid (I64 (X - 64 - z)) := by unfold I64; exact ⟨by omega, by omega⟩
    have I2 : Hid (I64 (X + 1 + z)) := by unfold I64; exact ⟨by omega, by omega⟩
    go_wp2_with fail
    refine (P.fresh X Y (X - 64 - z) w1 I0.out M.out.fit I1.out).mono ?_
    rw [S1.out]
    rintro e w2 ⟨rfl, hb⟩
    have B2 := Lib.hid (below_next B1.out hb)
    clear hb B1
    go_wp2_with fail
    refine (P.fresh X Y (X + 1 + z) w2 I0.out M.out.fit I2.out).mono ?_
    rw [S2.out]
    rintro e w3 ⟨rfl, hb⟩
    have B3 := Lib.hid (below_next B2.out hb)
    clear hb B2
    generalize hD : decide (X + 1 + z ≤ 1099511627776) = D
    go_wp2_with fail
    refine (P.fresh X Y n w3 I0.out M.out.fit HN.out).mono ?_
    rw [T1.out]
    rintro e w4 ⟨rfl, hb⟩
    have B4 := Lib.hid (below_next B3.out hb)
    clear hb B3
    go_wp2_with fail
    refine (P.fresh X Y X w4 I0.out M.out.fit I0.out).mono ?_
    rw [T2.out]
    rintro e w5 ⟨rfl, hb⟩
    have B5 := Lib.hid (below_next B4.out hb)
    clear hb B4
    go_wp2_with fail
    refine (awake_any P w5 (HG.out.below B5.out)).mono ?_
    rintro e w6 ⟨rfl, hb⟩
    have B6 := Lib.hid (below_next B5.out hb)
    clear hb B5
    go_wp2
    go_ret
    exact ⟨rfl, B6.out⟩
  · have HF := Lib.hid f
    have FC := Lib.hid (freshC_no f)
    clear f
    go_enter Tryd.func6, Tryd.ntmps6
    go_wp2_with fail
    refine (P.use h u n w HH.out HU.out HN.out).mono ?_
    rw [useH_no HF.out, useW_no HF.out]
    rintro e w1 ⟨v, rfl, he, hb⟩
    obtain ⟨p, rfl⟩ := he.some (useE_no HF.out)
    have B1 := Lib.hid hb
    clear hb he
    go_wp2_with fail
    refine (P.fresh h u n w1 HH.out HU.out HN.out).mono ?_
    rw [FC.out]
    rintro e w2 ⟨rfl, hb⟩
    have B2 := Lib.hid (below_next B1.out hb)
    clear hb B1
    go_wp2_with fail
    refine (awake_any P w2 (HG.out.below B2.out)).mono ?_
    rintro e w3 ⟨rfl, hb⟩
    have B3 := Lib.hid (below_next B2.out hb)
    clear hb B2
    go_wp2
    go_ret
    exact ⟨rfl, B3.out⟩
end Go.Proofs.YtlikjchaamimcaaDoor
