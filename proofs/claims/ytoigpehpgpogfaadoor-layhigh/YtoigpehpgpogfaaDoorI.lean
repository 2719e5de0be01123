/- Contract: numbers that are packed by the document's own code. -/
import Derived.Test.YtoigpehpgpogfaaDoorH
import Derived.Deep.RegionWith
import Derived.BigRegion
namespace Go.Proofs.YtoigpehpgpogfaaDoor.Bit
open Go

/-- n bytes, into which the first T bits are laid -/
def wrote (f : Nat → Bool) (n T : Nat) : List Nat := (List.range n).map fun j => num (fun t => decide (8 * j + t < T) && f (8 * j + t)) 8
theorem wrote_len (f : Nat → Bool) (n T : Nat) : (wrote f n T).length = n := by simp [wrote]
theorem wrote_at (f : Nat → Bool) {n : Nat} (T : Nat) {j : Nat} (h : j < n) : (wrote f n T).getD j 0 = num (fun t => decide (8 * j + t < T) && f (8 * j + t)) 8 := by
  simp [wrote, List.getD_eq_getElem?_getD, List.getElem?_range h]
theorem num_none {f : Nat → Bool} {n : Nat} (h : ∀ i, i < n → f i = false) : num f n = 0 := by
  rw [num_same (g := fun i => (0 : Nat).testBit i) fun i hi => by rw [h i hi]; simp]
  exact num_of (Nat.two_pow_pos n)
theorem wrote_zero (f : Nat → Bool) (n : Nat) : int (wrote f n 0) = List.replicate n 0 := by
  apply List.ext_getElem (by simp [int, wrote])
  intro i h1 h2
  simp [int, wrote, num_none]
theorem wrote_all {D : Nat} (hD : 0 < D) (X : List Nat) {n T : Nat} (hn : n = (D * X.length + 7) / 8) (hT : T = D * X.length) : wrote (strm D X) n T = packN D X := by
  subst hn
  subst hT
  unfold wrote packN
  congr 1
  funext j
  exact num_same fun t _ => by
    by_cases h : 8 * j + t < D * X.length
    · simp [h]
    · simp [h, strm_out hD (Nat.le_of_not_lt h)]
theorem wrote_lt (f : Nat → Bool) (n T j : Nat) : (wrote f n T).getD j 0 < 256 := by
  by_cases h : j < n
  · rw [wrote_at f T h]; exact num_lt _ 8
  · rw [getD_out (by rw [wrote_len]; omega)]; decide
theorem num_set {f g : Nat → Bool} {n r : Nat} (hr : r < n) (h : ∀ t, t < n → t ≠ r → g t = f t) (h0 : f r = false) : num f n ||| ((g r).toNat <<< r) = num g n := by
  apply Nat.eq_of_testBit_eq
  intro i
  rw [Nat.testBit_or, Nat.testBit_shiftLeft, num_bit, num_bit, toNat_bit]
  by_cases h1 : i < n
  · by_cases h2 : i = r
    · subst h2
      simp [h1, h0]
    · have h3 : ¬ (r ≤ i ∧ i - r = 0) := by omega
      rw [h i h1 h2]
      by_cases h4 : r ≤ i
      · have h5 : ¬ i - r = 0 := by omega
        simp [h1, h4, h5]
      · simp [h1, h4]
  · have h5 : ¬ i - r = 0 := by omega
    simp [h1, h5]
theorem wrote_next (f : Nat → Bool) {n T Q R : Nat} (hT : T = 8 * Q + R) (hR : R < 8) (hQ : Q < n) :
    (int (wrote f n T)).set Q (((((wrote f n T).getD Q 0) ||| ((f T).toNat <<< R) : Nat)) : Int) = int (wrote f n (T + 1)) := by
  subst hT
  apply List.ext_getElem (by simp [int, wrote])
  intro i h1 h2
  have hi : i < n := by simpa [int, wrote] using h2
  rw [List.getElem_set]
  have e2 : (int (wrote f n (8 * Q + R + 1)))[i] = ((num (fun t => decide (8 * i + t < 8 * Q + R + 1) && f (8 * i + t)) 8 : Nat) : Int) := by simp [int, wrote]
  rw [e2]
  by_cases h : Q = i
  · subst h
    rw [if_pos rfl, wrote_at f _ hQ]
    congr 1
    have := num_set (f := fun t => decide (8 * Q + t < 8 * Q + R) && f (8 * Q + t)) (g := fun t => decide (8 * Q + t < 8 * Q + R + 1) && f (8 * Q + t)) (n := 8) (r := R) hR (fun t _ ht => by
      by_cases hlt : t < R
      · have a1 : 8 * Q + t < 8 * Q + R := by omega
        have a2 : 8 * Q + t < 8 * Q + R + 1 := by omega
        simp only [a1, a2]
      · have a1 : ¬ 8 * Q + t < 8 * Q + R := by omega
        have a2 : ¬ 8 * Q + t < 8 * Q + R + 1 := by omega
        simp only [a1, a2]) (by simp)
    rw [← this]
    have a3 : 8 * Q + R < 8 * Q + R + 1 := by omega
    simp only [a3, decide_true, Bool.true_and]
  · rw [if_neg h]
    have e1 : (int (wrote f n (8 * Q + R)))[i]'(by simpa [int, wrote] using hi) = ((num (fun t => decide (8 * i + t < 8 * Q + R) && f (8 * i + t)) 8 : Nat) : Int) := by simp [int, wrote]
    rw [e1]
    congr 1
    exact num_same fun t ht => by
      by_cases hlt : 8 * i + t < 8 * Q + R
      · have a2 : 8 * i + t < 8 * Q + R + 1 := by omega
        simp only [hlt, a2]
      · have a2 : ¬ 8 * i + t < 8 * Q + R + 1 := by omega
        simp only [hlt, a2]
end Go.Proofs.YtoigpehpgpogfaaDoor.Bit
