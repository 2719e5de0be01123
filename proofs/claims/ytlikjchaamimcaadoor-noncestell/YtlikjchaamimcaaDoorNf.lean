/- The law NoncesRow, walked. -/
import Derived.Test.YtlikjchaamimcaaDoorNe
namespace Go.Proofs.YtlikjchaamimcaaDoor
open Go.RowKit Slices

theorem may_ones {h : Int} {j : Nat} (j1 : 1 ≤ j) (j2 : j ≤ 64) (hj : (j : Int) ≤ h) (hh : h ≤ 1099511627776) : MayN h (onesN j) :=
  ⟨by omega, hh, ones_lt j2, fun i _ hi => by rw [ones_bit, decide_eq_false (by omega)], fun _ => by rw [ones_bit, decide_eq_true (by omega)]⟩
/-- the window behind k numbers, one behind the other, from F on -/
def rowH (F : Int) (k : Nat) : Int := if k = 0 then 0 else F + k - 1
theorem rowH_zero (F : Int) : rowH F 0 = 0 := rfl
theorem rowH_next (F : Int) (k : Nat) : rowH F (k + 1) = F + k := by unfold rowH; rw [if_neg (by omega)]; omega
theorem row_may {F : Int} {k : Nat} (h1 : 1 ≤ F) (h2 : F + k ≤ 1099511627776) : MayN (rowH F k) (onesN (min k 64)) := by
  by_cases h : k = 0
  · subst h; exact may_first
  · unfold rowH
    rw [if_neg h]
    exact may_ones (by omega) (by omega) (by omega) (by omega)
theorem row_less (F : Int) (k : Nat) (h1 : 1 ≤ F) : rowH F k < F + k := by unfold rowH; split <;> omega
theorem row_fresh {F : Int} {k : Nat} (h1 : 1 ≤ F) (h2 : F + k ≤ 1099511627776) : FreshN (rowH F k) (onesN (min k 64)) (F + k) := fresh_above (row_may h1 h2) (row_less F k h1) h2
theorem row_use {F : Int} {k : Nat} (h1 : 1 ≤ F) : useU (rowH F k) (onesN (min k 64)) (F + k) = onesN (min (k + 1) 64) := by
  by_cases h : k = 0
  · subst h
    rw [rowH_zero]
    show useU 0 (onesN 0) (F + ((0 : Nat) : Int)) = onesN 1
    have e : F + ((0 : Nat) : Int) = F := by omega
    rw [e]
    exact ones_first F h1
  · unfold rowH
    rw [if_neg h]
    have e : F + (k : Int) = (F + k - 1) + 1 := by omega
    have q := ones_up (F + k - 1) (min k 64) (by omega)
    rw [← e] at q
    rw [q]
    congr 1
    omega
/-- backwards -/
theorem down_fresh {h : Int} {j : Nat} (j1 : 1 ≤ j) (j2 : j < 64) (hj : (j : Int) < h) (hh : h ≤ 1099511627776) : FreshN h (onesN j) (h - j) :=
  ⟨may_ones j1 (by omega) (by omega) hh, by omega, by omega, by omega, by
    rw [wasB_in (by omega) (by omega), ones_bit, decide_eq_false (by omega)]⟩
/-- one more 1 -/
theorem ones_push {k : Nat} (hk : k < 64) : bits .or .u64 (IntKind.u64.wrap (((onesN k : Nat) : Int) * 2)) 1 = ((onesN (k + 1) : Nat) : Int) := by
  have h1 : onesN (k + 1) = 2 * onesN k + 1 := by
    unfold onesN
    have := Nat.two_pow_pos k
    rw [Nat.pow_succ]; omega
  have h2 := ones_lt (k := k + 1) (by omega)
  have e : ((onesN k : Nat) : Int) * 2 = ((2 * onesN k : Nat) : Int) := by omega
  rw [e, wraps_64 _ (by omega) (by omega)]
  have e1 : (1 : Int) = ((1 : Nat) : Int) := rfl
  rw [e1, or_u (by omega) (by decide)]
  congr 1
  rw [h1]
  have q := Nat.two_pow_add_eq_or_of_lt (i := 1) (b := 1) (by decide) (onesN k)
  rw [Nat.pow_one] at q
  exact q.symm

/-- how far the first loop came -/
def RowAt (F : Int) (k : Nat) (h u i : Value) : Prop := h = .int .i64 (rowH F k) ∧ u = .int .u64 (onesN (min k 64) : Nat) ∧ i = .int .i64 k
/-- how far the last loop came -/
def DownAt (F : Int) (M j : Nat) (h u t i : Value) : Prop := h = .int .i64 (if j = 0 then 0 else F + M - 1) ∧ u = .int .u64 (onesN (min j 64) : Nat) ∧ t = .int .i64 (min j 64 : Nat) ∧ i = .int .i64 ((M : Int) - 1 - j)

set_option maxRecDepth 100000 in
set_option maxHeartbeats 1000000 in
theorem noncesRow_any (P : NoncesOk) (from_ many : Int) (w : World) (hg : Han w) :
    Calls Tryd.prog 7 #[.int .i64 from_, .int .i64 many] w fun e w' => e = .returned (.bool true) ∧ Below w.heap.size w w' := by
  have HG := Lib.hid hg
  clear hg
  go_enter Tryd.func7, Tryd.ntmps7
  go_wp2_with fail
  refine (low_some from_ 100000 w (by decide) (by decide)).mono ?_
  rintro e w1 ⟨f, rfl, f0, f1, rfl⟩
  go_wp2_with fail
  refine (low_some many 150 w (by decide) (by decide)).mono ?_
  rintro e w1 ⟨m, rfl, m0, m1, rfl⟩
  obtain ⟨F, hF⟩ : ∃ F, F = 1 + f := ⟨_, rfl⟩
  obtain ⟨M, hM⟩ : ∃ M : Nat, m = M := ⟨m.toNat, by omega⟩
  subst hM
  have F0 : 1 ≤ F := by omega
  have F1 : F ≤ 100000 := by omega
  have EF := Lib.hid hF
  clear hF m0
  go_wp2
  rw [← EF.out]
  clear EF
  go_loopw [5, 6, 7] (fun h u i wr => ∃ k : Nat, k ≤ M ∧ RowAt F k h u i ∧ Below w.heap.size w wr) (fun _ _ i _ => M - (intOf i).toNat)
  case atStart => exact ⟨0, by omega, ⟨rfl, rfl, rfl⟩, Below.refl _ _⟩
  case round =>
    obtain ⟨k, hk, ⟨rfl, rfl, rfl⟩, hb⟩ := hrel
    have HB := Lib.hid hb
    clear hb
    by_cases hlt : k < M
    · have hf := Lib.hid (row_fresh (k := k) F0 (by omega))
      have hm := Lib.hid (row_may (k := k) F0 (by omega))
      have I0 : Hid (I64 (rowH F k)) := i64_of hm.out.lo hm.out.hi
      have I1 : Hid (I64 (F + k)) := i64_of (by omega) (by omega)
      have UW := Lib.hid (row_use (k := k) F0)
      have UH : Hid (max (rowH F k) (F + k) = F + k) := by
        have := row_less F k F0
        exact (by omega : max (rowH F k) (F + k) = F + k)
      obtain ⟨X, hX⟩ : ∃ X, X = F + (k : Int) := ⟨_, rfl⟩
      have t0 : (F + (k : Int) == F + k) = true := by simp
      go_wp2_with fail
      refine (P.use (rowH F k) (onesN (min k 64)) (F + k) wr I0.out hm.out.fit I1.out).mono ?_
      rw [useH_yes hf.out, useW_yes hf.out, useE_yes hf.out, UW.out, UH.out]
      rintro e w2 ⟨v, rfl, he, hb⟩
      obtain rfl := he.none
      have B2 := Lib.hid (below_next HB.out hb)
      clear hb he HB UW UH hf hm I0 I1
      go_wp2
      go_roundw
      case rel => exact ⟨k + 1, by omega, ⟨by rw [rowH_next], rfl, by go_num⟩, B2.out⟩
      case measure => simp [intOf]; omega
    · have e : k = M := by omega
      subst e
      clear hlt hk
      rcases (show k < 64 ∨ (k ≤ 64 ∧ 64 ≤ k) ∨ 64 < k by omega) with q | ⟨q, q'⟩ | q
      all_goals
        go_wp2
        go_loopw [11, 12] (fun o i wr' => ∃ j : Nat, j ≤ min k 64 ∧ o = .int .u64 (onesN j : Nat) ∧ i = .int .i64 j ∧ wr' = wr) (fun _ i _ => 64 - (intOf i).toNat)
        case atStart => exact ⟨0, by omega, rfl, rfl, rfl⟩
        case round =>
          obtain ⟨j, hj, rfl, rfl, rfl⟩ := hrel
          by_cases h1 : j < min k 64
          · have h2 : j < 64 := by omega
            have h3 : j < k := by omega
            have hp := ones_push h2
            go_wp2
            go_roundw
            case rel => exact ⟨j + 1, by omega, by first | rfl | (rw [hp]), by go_num, trivial⟩
            case measure => simp [intOf]; omega
          · obtain rfl : j = min k 64 := by omega
            clear h1 hj
            obtain ⟨L, hL⟩ : ∃ L, L = min k 64 := ⟨_, rfl⟩
            rw [← hL]
            have l1 : L ≤ k := by omega
            have l2 : L ≤ 64 := by omega
            have l3 : k < 64 → L = k := by omega
            have l4 : 64 ≤ k → L = 64 := by omega
            have HL := Lib.hid hL
            clear hL
            go_wp2
            clear l3 l4
            go_loopw [13, 14, 15, 16] (fun h u t i wr' => ∃ j : Nat, j ≤ k ∧ DownAt F k j h u t i ∧ Below w.heap.size w wr') (fun _ _ _ i _ => (intOf i + 1).toNat)
            case atStart => exact ⟨0, by omega, ⟨rfl, rfl, rfl, by simp⟩, HB.out⟩
            case round =>
              obtain ⟨j, hj, ⟨rfl, rfl, rfl, rfl⟩, hb⟩ := hrel
              have BB := Lib.hid hb
              clear hb HB
              by_cases hlt : j < k
              · by_cases j0 : j = 0
                · subst j0
                  have hf := Lib.hid (fresh_above may_first (show 0 < F + ((k : Int) - 1 - ((0 : Nat) : Int)) by omega) (by omega))
                  have I1 : Hid (I64 (F + ((k : Int) - 1 - ((0 : Nat) : Int)))) := i64_of (by omega) (by omega)
                  have UW := Lib.hid (ones_first (F + ((k : Int) - 1 - ((0 : Nat) : Int))) (by omega))
                  have UH : Hid (max 0 (F + ((k : Int) - 1 - ((0 : Nat) : Int))) = F + ((k : Int) - 1 - ((0 : Nat) : Int))) := Lib.hid (by omega)
                  rw [if_pos rfl, show ((onesN (min 0 64) : Nat) : Int) = 0 from rfl, show ((min 0 64 : Nat) : Int) = 0 from rfl]
                  obtain ⟨N, hN⟩ : ∃ N, N = F + ((k : Int) - 1 - ((0 : Nat) : Int)) := ⟨_, rfl⟩
                  rw [← hN] at hf I1 UW UH
                  have i0 : (k : Int) - 1 - ((0 : Nat) : Int) = N - F := by omega
                  have e1 : F + (N - F) = N := by omega
                  have n1 : N = F + k - 1 := by omega
                  have HN := Lib.hid n1
                  rw [i0]
                  have p0 : 0 ≤ N - F := by omega
                  have p1 : N - F < 150 := by omega
                  clear hN i0 n1
                  go_wp2_with fail
                  refine (P.use 0 0 N _ (i64_of (by decide) (by decide)) (by decide) I1.out).mono ?_
                  rw [useH_yes hf.out, useW_yes hf.out, useE_yes hf.out, UW.out, UH.out]
                  rintro e w2 ⟨v, rfl, he, hb⟩
                  obtain rfl := he.none
                  have B2 := Lib.hid (below_next BB.out hb)
                  clear hb he BB
                  go_wp2
                  go_roundw
                  case rel => exact ⟨1, by omega, ⟨by rw [HN.out]; rfl, rfl, rfl, by rw [HN.out]; congr 1; omega⟩, B2.out⟩
                  case measure => simp [intOf]; omega
                · by_cases j64 : j < 64
                  · obtain ⟨X, hX⟩ : ∃ X, X = F + (k : Int) - 1 := ⟨_, rfl⟩
                    have hf := Lib.hid (down_fresh (h := X) (j := j) (by omega) j64 (by omega) (by omega))
                    have hm := Lib.hid (may_ones (h := X) (j := j) (by omega) (by omega) (by omega) (by omega))
                    have I0 : Hid (I64 X) := i64_of (by omega) (by omega)
                    have I1 : Hid (I64 (X - j)) := i64_of (by omega) (by omega)
                    have UW := Lib.hid (ones_down X j j64 (by omega))
                    have UH : Hid (max X (X - (j : Int)) = X) := Lib.hid (by omega)
                    have m0 : min j 64 = j := by omega
                    have m1' : min (j + 1) 64 = j + 1 := by omega
                    rw [if_neg j0, m0, ← hX]
                    obtain ⟨N, hN⟩ : ∃ N, N = X - (j : Int) := ⟨_, rfl⟩
                    rw [← hN] at hf I1 UW UH
                    have i0 : (k : Int) - 1 - (j : Int) = N - F := by omega
                    have e1 : F + (N - F) = N := by omega
                    have HX := Lib.hid hX
                    have HN := Lib.hid hN
                    have HM := Lib.hid m1'
                    rw [i0]
                    have p0 : 0 ≤ N - F := by omega
                    have p1 : N - F < 150 := by omega
                    clear hN hX i0 m0 m1'
                    go_wp2_with fail
                    refine (P.use X (onesN j) N _ I0.out hm.out.fit I1.out).mono ?_
                    rw [useH_yes hf.out, useW_yes hf.out, useE_yes hf.out, UW.out, UH.out]
                    rintro e w2 ⟨v, rfl, he, hb⟩
                    obtain rfl := he.none
                    have B2 := Lib.hid (below_next BB.out hb)
                    clear hb he BB
                    go_wp2
                    go_roundw
                    case rel => exact ⟨j + 1, by omega, ⟨by rw [if_neg (by omega), HX.out], by rw [HM.out], by rw [HM.out]; go_num, by rw [HN.out, HX.out]; congr 1; omega⟩, B2.out⟩
                    case measure => simp [intOf]; omega
                  · first
                      | (exfalso; omega)
                      | (obtain ⟨X, hX⟩ : ∃ X, X = F + (k : Int) - 1 := ⟨_, rfl⟩
                         have hf := Lib.hid (not_fresh_old (h := X) (u := onesN 64) (n := X - (j : Int)) (by omega))
                         have hm := Lib.hid (may_ones (h := X) (j := 64) (by omega) (by omega) (by omega) (by omega))
                         have I0 : Hid (I64 X) := i64_of (by omega) (by omega)
                         have I1 : Hid (I64 (X - j)) := i64_of (by omega) (by omega)
                         have m0 : min j 64 = 64 := by omega
                         have m1' : min (j + 1) 64 = 64 := by omega
                         rw [if_neg j0, m0, ← hX]
                         obtain ⟨N, hN⟩ : ∃ N, N = X - (j : Int) := ⟨_, rfl⟩
                         rw [← hN] at hf I1
                         have i0 : (k : Int) - 1 - (j : Int) = N - F := by omega
                         have e1 : F + (N - F) = N := by omega
                         have HX := Lib.hid hX
                         have HN := Lib.hid hN
                         have HM := Lib.hid m1'
                         rw [i0]
                         have p0 : 0 ≤ N - F := by omega
                         have p1 : N - F < 150 := by omega
                         clear hN hX i0 m0 m1'
                         go_wp2_with fail
                         refine (P.use X (onesN 64) N _ I0.out hm.out.fit I1.out).mono ?_
                         rw [useH_no hf.out, useW_no hf.out]
                         rintro e w2 ⟨v, rfl, he, hb⟩
                         obtain ⟨pp, rfl⟩ := he.some (useE_no hf.out)
                         have B2 := Lib.hid (below_next BB.out hb)
                         clear hb he BB
                         go_wp2
                         go_roundw
                         case rel => exact ⟨j + 1, by omega, ⟨by rw [if_neg (by omega), HX.out], by rw [HM.out], by rw [HM.out]; rfl, by rw [HN.out, HX.out]; congr 1; omega⟩, B2.out⟩
                         case measure => simp [intOf]; omega)
              · obtain rfl : j = k := by omega
                clear hlt hj
                have eH : (if j = 0 then (0 : Int) else F + (j : Int) - 1) = rowH F j := rfl
                rw [eH, ← HL.out]
                obtain ⟨X, hX⟩ : ∃ X, X = rowH F j := ⟨_, rfl⟩
                rw [← hX]
                have i1 : (j : Int) - 1 - j = -1 := by omega
                rw [i1]
                clear eH hX i1
                have t1 : (X == X) = true := by simp
                have hl := HL.out
                try have t2 : ((L : Int) == (j : Int)) = true := by rw [beq_iff_eq]; omega
                try have t3 : ((L : Int) == 64) = true := by rw [beq_iff_eq]; omega
                try have t4 : (((onesN L : Nat) : Int) == ((onesN 64 : Nat) : Int)) = true := by rw [beq_iff_eq, show L = 64 by omega]
                clear hl
                go_wp2_with fail
                refine (awake_any P _ (HG.out.below BB.out)).mono ?_
                rintro e w2 ⟨rfl, hb⟩
                have B2 := Lib.hid (below_next BB.out hb)
                clear hb BB
                go_wp2
                go_ret
                exact ⟨rfl, B2.out⟩
end Go.Proofs.YtlikjchaamimcaaDoor
