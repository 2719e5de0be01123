/- Windows of numbers that were used, as the chapter reckons with them. Nothing of the program. -/
import Derived.RowKit
namespace Go.Proofs.YtlikjchaamimcaaDoor

/-- a window that may be -/
structure MayN (h : Int) (u : Nat) : Prop where
  lo : 0 ≤ h
  hi : h ≤ 1099511627776
  fit : u < 2 ^ 64
  far : ∀ i : Nat, i < 64 → h ≤ (i : Int) → u.testBit i = false
  one : h ≠ 0 → u.testBit 0 = true
/-- was a number used, as far as the window tells? -/
def wasB (h : Int) (u : Nat) (m : Int) : Bool := decide (m ≤ h) && decide (h - m < 64) && u.testBit (h - m).toNat
/-- a number that may be used -/
structure FreshN (h : Int) (u : Nat) (n : Int) : Prop where
  may : MayN h u
  lo : 1 ≤ n
  hi : n ≤ 1099511627776
  near : h - 64 < n
  new : wasB h u n = false
/-- what the window is when n was used, too -/
def useU (h : Int) (u : Nat) (n : Int) : Nat := if n ≤ h then u ||| 2 ^ (h - n).toNat else if 64 ≤ n - h then 1 else (u <<< (n - h).toNat) % 2 ^ 64 ||| 1

theorem wasB_above {h : Int} {u : Nat} {m : Int} (hm : h < m) : wasB h u m = false := by
  unfold wasB
  rw [decide_eq_false (by omega)]; rfl
theorem wasB_in {h : Int} {u : Nat} {m : Int} (h1 : m ≤ h) (h2 : h - 64 < m) : wasB h u m = u.testBit (h - m).toNat := by
  unfold wasB
  rw [decide_eq_true (by omega), decide_eq_true (by omega)]; rfl
theorem bit_at {u : Nat} {h : Int} {i : Nat} (hi : i < 64) : u.testBit i = wasB h u (h - i) := by
  rw [wasB_in (by omega) (by omega)]
  congr 1
  omega
theorem pow_lt64 {i : Nat} (h : i < 64) : (2 : Nat) ^ i < 2 ^ 64 := Nat.pow_lt_pow_right (by decide) h
theorem useU_lt {h : Int} {u : Nat} {n : Int} (hu : u < 2 ^ 64) (hn : h - 64 < n) : useU h u n < 2 ^ 64 := by
  unfold useU
  split
  · exact Nat.or_lt_two_pow hu (pow_lt64 (by omega))
  · split
    · decide
    · exact Nat.or_lt_two_pow (Nat.mod_lt _ (by decide)) (by decide)
/-- what the window tells behind a use -/
theorem use_was {h : Int} {u : Nat} {n m : Int} (hn : h - 64 < n) (hm : max h n - 64 < m) : wasB (max h n) (useU h u n) m = (decide (m = n) || wasB h u m) := by
  by_cases h1 : max h n < m
  · rw [wasB_above h1, wasB_above (by omega), decide_eq_false (by omega)]; rfl
  · rw [wasB_in (by omega) hm]
    unfold useU
    by_cases h2 : n ≤ h
    · rw [if_pos h2, Nat.testBit_or, Nat.testBit_two_pow, wasB_in (by omega) (by omega)]
      have e : max h n = h := by omega
      rw [e, Bool.or_comm]
      congr 1
      rw [decide_eq_decide]
      omega
    · rw [if_neg h2]
      have e : max h n = n := by omega
      rw [e] at hm h1 ⊢
      by_cases h3 : 64 ≤ n - h
      · rw [if_pos h3, wasB_above (by omega), Bool.or_false]
        have : (1 : Nat) = 2 ^ 0 := rfl
        rw [this, Nat.testBit_two_pow, decide_eq_decide]
        omega
      · rw [if_neg h3, Nat.testBit_or, Nat.testBit_mod_two_pow, Nat.testBit_shiftLeft]
        have : (1 : Nat) = 2 ^ 0 := rfl
        rw [this, Nat.testBit_two_pow, decide_eq_true (show (n - m).toNat < 64 by omega), Bool.true_and, Bool.or_comm]
        congr 1
        · rw [decide_eq_decide]; omega
        · by_cases h4 : m ≤ h
          · rw [wasB_in h4 (by omega), decide_eq_true (by omega), Bool.true_and]
            congr 1
            omega
          · rw [wasB_above (by omega), decide_eq_false (by omega), Bool.false_and]
/-- windows that tell the same are the same -/
theorem win_ext {h : Int} {u u' : Nat} (hu : u < 2 ^ 64) (hu' : u' < 2 ^ 64) (he : ∀ m, h - 64 < m → wasB h u m = wasB h u' m) : u = u' := by
  apply Nat.eq_of_testBit_eq
  intro i
  by_cases hi : i < 64
  · rw [bit_at (h := h) hi, bit_at (h := h) hi]
    exact he _ (by omega)
  · rw [Nat.testBit_lt_two_pow (Nat.lt_of_lt_of_le hu (Nat.pow_le_pow_right (by decide) (by omega))), Nat.testBit_lt_two_pow (Nat.lt_of_lt_of_le hu' (Nat.pow_le_pow_right (by decide) (by omega)))]
theorem FreshN.use {h : Int} {u : Nat} {n : Int} (f : FreshN h u n) : MayN (max h n) (useU h u n) := by
  obtain ⟨⟨m1, m2, m3, m4, m5⟩, f2, f3, f4, f5⟩ := f
  refine ⟨by omega, by omega, useU_lt m3 f4, fun i hi hh => ?_, fun _ => ?_⟩
  · rw [bit_at (h := max h n) hi, use_was f4 (by omega), decide_eq_false (by omega), Bool.false_or]
    by_cases q : max h n - (i : Int) ≤ h - 64
    · unfold wasB
      rw [decide_eq_false (p := h - (max h n - (i : Int)) < 64) (by omega), Bool.and_false, Bool.false_and]
    · by_cases q2 : max h n - (i : Int) ≤ h
      · rw [wasB_in q2 (by omega)]
        exact m4 _ (by omega) (by omega)
      · exact wasB_above (by omega)
  · rw [bit_at (h := max h n) (by omega : 0 < 64), use_was f4 (by omega)]
    by_cases q : n ≤ h
    · have e : max h n = h := by omega
      rw [e, wasB_in (by omega) (by omega)]
      have : (h - (h - ((0 : Nat) : Int))).toNat = 0 := by omega
      rw [this, m5 (by omega), Bool.or_true]
    · rw [decide_eq_true (by omega)]; rfl
theorem may_first : MayN 0 0 := ⟨by omega, by omega, by decide, fun i _ _ => Nat.zero_testBit i, fun h => absurd rfl h⟩
/-- a number above the window is fresh -/
theorem fresh_above {h : Int} {u : Nat} {n : Int} (m : MayN h u) (h1 : h < n) (h2 : n ≤ 1099511627776) : FreshN h u n := ⟨m, by have := m.lo; omega, h2, by omega, wasB_above h1⟩
/-- a number that was used, or is too old, is not -/
theorem not_fresh_used {h : Int} {u : Nat} {n : Int} (h1 : wasB h u n = true) : ¬ FreshN h u n := fun f => by rw [f.new] at h1; cases h1
theorem not_fresh_old {h : Int} {u : Nat} {n : Int} (h1 : n ≤ h - 64) : ¬ FreshN h u n := fun f => by have := f.near; omega
theorem FreshN.took {h : Int} {u : Nat} {n : Int} (f : FreshN h u n) : ¬ FreshN (max h n) (useU h u n) n := by
  have f4 := f.near
  by_cases q : max h n - 64 < n
  · exact not_fresh_used (by rw [use_was f4 q, decide_eq_true rfl]; rfl)
  · exact not_fresh_old (by omega)
theorem FreshN.top {h : Int} {u : Nat} {n : Int} (f : FreshN h u n) : ¬ FreshN (max h n) (useU h u n) (max h n) := by
  have m := f.use
  refine not_fresh_used ?_
  rw [wasB_in (by omega) (by omega)]
  have e : (max h n - max h n).toNat = 0 := by omega
  rw [e]
  exact m.one (by have := f.lo; omega)
/-- a fresh number stays fresh behind another one, if it is not too old then -/
theorem FreshN.stays {h : Int} {u : Nat} {a b : Int} (fa : FreshN h u a) (fb : FreshN h u b) (hne : a ≠ b) (hd : a - b < 64) : FreshN (max h a) (useU h u a) b := by
  have f1 := fa.near
  have f2 := fb.near
  refine ⟨fa.use, fb.lo, fb.hi, by omega, ?_⟩
  rw [use_was f1 (by omega), decide_eq_false (by omega), fb.new]; rfl
/-- two numbers, in whatever order, make the same window -/
theorem use_turn {h : Int} {u : Nat} {a b : Int} (fa : FreshN h u a) (fb : FreshN h u b) (hne : a ≠ b) (h1 : a - b < 64) (h2 : b - a < 64) : useU (max h a) (useU h u a) b = useU (max h b) (useU h u b) a := by
  have ga := fa.stays fb hne h1
  have gb := fb.stays fa (Ne.symm hne) h2
  have n1 := fa.near
  have n2 := fb.near
  have n3 := ga.near
  have n4 := gb.near
  have e : max (max h b) a = max (max h a) b := by omega
  refine win_ext (h := max (max h a) b) ga.use.fit (by have := gb.use.fit; exact this) fun m hm => ?_
  rw [use_was n3 hm, use_was n1 (by omega)]
  rw [← e] at hm ⊢
  rw [use_was n4 hm, use_was n2 (by omega)]
  cases decide (m = a) <;> cases decide (m = b) <;> rfl
theorem max_turn (h a b : Int) : max (max h a) b = max (max h b) a := by omega

/-- k bits that are all 1 -/
def onesN (k : Nat) : Nat := 2 ^ k - 1
theorem ones_bit (k i : Nat) : (onesN k).testBit i = decide (i < k) := Nat.testBit_two_pow_sub_one k i
theorem ones_lt {k : Nat} (h : k ≤ 64) : onesN k < 2 ^ 64 := by
  have := Nat.pow_le_pow_right (n := 2) (by decide) h
  have := Nat.two_pow_pos k
  unfold onesN
  omega
theorem ones_up (h : Int) (k : Nat) (hk : k ≤ 64) : useU h (onesN k) (h + 1) = onesN (min (k + 1) 64) := by
  refine win_ext (h := h + 1) (useU_lt (ones_lt hk) (by omega)) (ones_lt (by omega)) fun m hm => ?_
  have e : max h (h + 1) = h + 1 := by omega
  have q := use_was (h := h) (u := onesN k) (n := h + 1) (m := m) (by omega) (by omega)
  rw [e] at q
  rw [q]
  by_cases h1 : m ≤ h + 1
  · rw [wasB_in h1 hm, ones_bit]
    by_cases h2 : m = h + 1
    · rw [decide_eq_true h2, decide_eq_true (by omega)]; rfl
    · rw [decide_eq_false h2, wasB_in (by omega) (by omega), ones_bit, Bool.false_or, decide_eq_decide]
      omega
  · rw [wasB_above (by omega), wasB_above (by omega), decide_eq_false (by omega)]; rfl
theorem ones_first (n : Int) (hn : 1 ≤ n) : useU 0 0 n = onesN 1 := by
  have e : max 0 n = n := by omega
  refine win_ext (h := n) (useU_lt (by decide) (by omega)) (ones_lt (by omega)) fun m hm => ?_
  have q := use_was (h := 0) (u := 0) (n := n) (m := m) (by omega) (by omega)
  rw [e] at q
  rw [q]
  have z : wasB 0 0 m = false := by unfold wasB; rw [Nat.zero_testBit, Bool.and_false]
  rw [z, Bool.or_false]
  by_cases h1 : m ≤ n
  · rw [wasB_in h1 hm, ones_bit, decide_eq_decide]; omega
  · rw [wasB_above (by omega), decide_eq_false (by omega)]
/-- backwards -/
theorem ones_down (h : Int) (k : Nat) (hk : k < 64) (hk1 : 1 ≤ k) : useU h (onesN k) (h - k) = onesN (k + 1) := by
  have e : max h (h - k) = h := by omega
  refine win_ext (h := h) (useU_lt (ones_lt (by omega)) (by omega)) (ones_lt (by omega)) fun m hm => ?_
  have q := use_was (h := h) (u := onesN k) (n := h - k) (m := m) (by omega) (by omega)
  rw [e] at q
  rw [q]
  by_cases h1 : m ≤ h
  · rw [wasB_in h1 hm, wasB_in h1 hm, ones_bit, ones_bit]
    by_cases h2 : m = h - k
    · rw [decide_eq_true h2, Bool.true_or]
      exact (decide_eq_true (by omega)).symm
    · rw [decide_eq_false h2, Bool.false_or, decide_eq_decide]
      omega
  · rw [wasB_above (by omega), wasB_above (by omega), decide_eq_false (by omega)]; rfl
end Go.Proofs.YtlikjchaamimcaaDoor
