/- Plain facts on numbers modulo 8380417; nothing of the program. -/
namespace Go.Proofs.Ytneopnlklhcopaa.Ring

def rOf (x : Int) : Int := x % 8380417
def rAdd (a b : Int) : Int := rOf (a + b)
def rSub (a b : Int) : Int := rOf (a - b)
def rMul (a b : Int) : Int := rOf (a * b)
def rPow (a n : Int) : Int := if n < 0 then 0 else rOf (a ^ n.toNat)
def norm (x : Int) : Int := if rOf x ≤ 8380417 - rOf x then rOf x else 8380417 - rOf x
def low (x n : Int) : Int := x % 18446744073709551616 % n
def PowInv (A p s : Int) (k : Nat) : Prop := rOf (p * s ^ k) = A

theorem rOf_lo (x : Int) : 0 ≤ rOf x := by unfold rOf; omega
theorem rOf_hi (x : Int) : rOf x ≤ 8380416 := by unfold rOf; omega
theorem rOf_mod (x : Int) : rOf (rOf x) = rOf x := by unfold rOf; omega
theorem rMul_lo (x y : Int) : 0 ≤ rMul x y := rOf_lo _
theorem rMul_hi (x y : Int) : rMul x y ≤ 8380416 := rOf_hi _
theorem rOf_small (x : Int) (h : 0 ≤ x) (h' : x ≤ 8380416) : rOf x = x := by unfold rOf; omega
theorem prod_bd (a b : Int) (ha : 0 ≤ a) (ha' : a ≤ 8380416) (hb : 0 ≤ b) (hb' : b ≤ 8380416) : 0 ≤ a * b ∧ a * b ≤ 70231372333056 := by
  refine ⟨Int.mul_nonneg ha hb, ?_⟩
  have := Int.mul_le_mul ha' hb' hb (by omega : (0:Int) ≤ 8380416)
  omega
theorem tmod_cases (x : Int) : (0 ≤ x ∧ x.tmod 8380417 = x % 8380417) ∨ (x < 0 ∧ x.tmod 8380417 = -((-x) % 8380417)) := by
  by_cases h : 0 ≤ x
  · exact .inl ⟨h, Int.tmod_eq_emod_of_nonneg h⟩
  · refine .inr ⟨by omega, ?_⟩
    have : (-x).tmod 8380417 = (-x) % 8380417 := Int.tmod_eq_emod_of_nonneg (by omega)
    rw [← this, Int.neg_tmod, Int.neg_neg]
theorem tmod_neg (x : Int) (h : x.tmod 8380417 < 0) : x.tmod 8380417 + 8380417 = rOf x := by
  have := tmod_cases x; unfold rOf; omega
theorem tmod_pos (x : Int) (h : 0 ≤ x.tmod 8380417) : x.tmod 8380417 = rOf x := by
  have := tmod_cases x; unfold rOf; omega
theorem tmod_lo (x : Int) : -8380416 ≤ x.tmod 8380417 := by have := tmod_cases x; omega
theorem tmod_hi (x : Int) : x.tmod 8380417 ≤ 8380416 := by have := tmod_cases x; omega
theorem tmod_ref (x : Int) : (x.tmod 8380417 + 8380417) % 8380417 = rOf x := by have := tmod_cases x; unfold rOf; omega

theorem rAdd_of (a b : Int) : rOf (rOf a + rOf b) = rAdd a b := by unfold rAdd rOf; omega
theorem rSub_of (a b : Int) : rOf (rOf a - rOf b) = rSub a b := by unfold rSub rOf; omega
theorem rMul_of (a b : Int) : rOf (rOf a * rOf b) = rMul a b := by unfold rMul rOf; exact (Int.mul_emod _ _ _).symm
theorem rMul_ofl (a b : Int) : rOf (rOf a * b) = rOf (a * b) := by unfold rOf; rw [Int.mul_emod, Int.emod_emod, ← Int.mul_emod]
theorem rMul_ofr (a b : Int) : rOf (a * rOf b) = rOf (a * b) := by rw [Int.mul_comm, rMul_ofl, Int.mul_comm]
theorem rPow_of (a : Int) (n : Nat) : rOf (rOf a ^ n) = rOf (a ^ n) := by
  induction n with
  | zero => rw [Int.pow_zero, Int.pow_zero]
  | succ n ih => rw [Int.pow_succ, Int.pow_succ, ← rMul_ofl, ih, rMul_ofl, rMul_ofr]

theorem powInv_start (a : Int) (n : Nat) : PowInv (rPow a n) 1 (rOf a) n := by
  unfold PowInv rPow
  rw [if_neg (by omega), Int.one_mul, rPow_of, Int.toNat_natCast]
theorem sq_pow (s : Int) (j : Nat) : s ^ (2 * j) = (s * s) ^ j := by rw [Int.pow_mul, Int.pow_succ, Int.pow_succ, Int.pow_zero, Int.one_mul]
theorem powInv_even {A p s : Int} {j k : Nat} (h : PowInv A p s k) (e : k = 2 * j) : PowInv A p (rMul s s) j := by
  subst e
  unfold PowInv at *
  rw [← h, sq_pow, ← rMul_ofr, rMul, rPow_of, rMul_ofr]
theorem powInv_odd {A p s : Int} {j k : Nat} (h : PowInv A p s k) (e : k = 2 * j + 1) : PowInv A (rMul p s) (rMul s s) j := by
  subst e
  unfold PowInv at *
  rw [← h, Int.pow_succ, sq_pow, rMul, rMul_ofl, ← rMul_ofr, rMul, rPow_of, rMul_ofr]
  congr 1
  rw [Int.mul_assoc, Int.mul_comm s]
theorem powInv_end {A p s : Int} (h : PowInv A p s 0) (h0 : 0 ≤ p) (h1 : p ≤ 8380416) : p = A := by
  unfold PowInv at h
  rw [Int.pow_zero, Int.mul_one, rOf_small p h0 h1] at h
  exact h
theorem rPow_neg (a n : Int) (h : n < 0) : rPow a n = 0 := by unfold rPow; rw [if_pos h]

def turn (i : Int) : Int := i % 2 * 128 + i / 2 % 2 * 64 + i / 4 % 2 * 32 + i / 8 % 2 * 16 + i / 16 % 2 * 8 + i / 32 % 2 * 4 + i / 64 % 2 * 2 + i / 128 % 2
def rRoot (i : Int) : Int := rPow 1753 (turn i)
theorem turn_bd (x : Int) : 0 ≤ turn x ∧ turn x ≤ 255 := by simp only [turn]; omega
theorem norm_lo (x : Int) : 0 ≤ norm x := by unfold norm rOf; omega
theorem norm_hi (x : Int) : norm x ≤ 4190208 := by unfold norm rOf; omega
theorem norm_neg (x : Int) : norm (-x) = norm x := by unfold norm rOf; omega
theorem norm_of (x : Int) : norm (rOf x) = norm x := by unfold norm rOf; omega
theorem norm_add (x y : Int) : norm (x + y) ≤ norm x + norm y := by unfold norm rOf; omega
end Go.Proofs.Ytneopnlklhcopaa.Ring
