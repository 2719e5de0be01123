/- Plain facts on numbers modulo 3329; nothing of the program. -/
namespace Go.Proofs.YtlaejnbkgikfcaaDoor.Ring

def rOf (x : Int) : Int := x % 3329
def rAdd (a b : Int) : Int := rOf (a + b)
def rSub (a b : Int) : Int := rOf (a - b)
def rMul (a b : Int) : Int := rOf (a * b)
def rPow (a n : Int) : Int := if n < 0 then 0 else rOf (a ^ n.toNat)
def low (x n : Int) : Int := x % 18446744073709551616 % n
def PowInv (A p s : Int) (k : Nat) : Prop := rOf (p * s ^ k) = A

theorem rOf_lo (x : Int) : 0 ≤ rOf x := by unfold rOf; omega
theorem rOf_hi (x : Int) : rOf x ≤ 3328 := by unfold rOf; omega
theorem rOf_mod (x : Int) : rOf (rOf x) = rOf x := by unfold rOf; omega
theorem rMul_lo (x y : Int) : 0 ≤ rMul x y := rOf_lo _
theorem rMul_hi (x y : Int) : rMul x y ≤ 3328 := rOf_hi _
theorem rOf_small (x : Int) (h : 0 ≤ x) (h' : x ≤ 3328) : rOf x = x := by unfold rOf; omega
theorem prod_bd (a b : Int) (ha : 0 ≤ a) (ha' : a ≤ 3328) (hb : 0 ≤ b) (hb' : b ≤ 3328) : 0 ≤ a * b ∧ a * b ≤ 11075584 := by
  refine ⟨Int.mul_nonneg ha hb, ?_⟩
  have := Int.mul_le_mul ha' hb' hb (by omega : (0:Int) ≤ 3328)
  omega
theorem tmod_cases (x : Int) : (0 ≤ x ∧ x.tmod 3329 = x % 3329) ∨ (x < 0 ∧ x.tmod 3329 = -((-x) % 3329)) := by
  by_cases h : 0 ≤ x
  · exact .inl ⟨h, Int.tmod_eq_emod_of_nonneg h⟩
  · refine .inr ⟨by omega, ?_⟩
    have : (-x).tmod 3329 = (-x) % 3329 := Int.tmod_eq_emod_of_nonneg (by omega)
    rw [← this, Int.neg_tmod, Int.neg_neg]
theorem tmod_neg (x : Int) (h : x.tmod 3329 < 0) : x.tmod 3329 + 3329 = rOf x := by
  have := tmod_cases x; unfold rOf; omega
theorem tmod_pos (x : Int) (h : 0 ≤ x.tmod 3329) : x.tmod 3329 = rOf x := by
  have := tmod_cases x; unfold rOf; omega
theorem tmod_lo (x : Int) : -3328 ≤ x.tmod 3329 := by have := tmod_cases x; omega
theorem tmod_hi (x : Int) : x.tmod 3329 ≤ 3328 := by have := tmod_cases x; omega
theorem tmod_ref (x : Int) : (x.tmod 3329 + 3329) % 3329 = rOf x := by have := tmod_cases x; unfold rOf; omega

theorem rAdd_of (a b : Int) : rOf (rOf a + rOf b) = rAdd a b := by unfold rAdd rOf; omega
theorem rSub_of (a b : Int) : rOf (rOf a - rOf b) = rSub a b := by unfold rSub rOf; omega
theorem rMul_of (a b : Int) : rOf (rOf a * rOf b) = rMul a b := by unfold rMul rOf; exact (Int.mul_emod _ _ _).symm
theorem rMul_ofl (a b : Int) : rOf (rOf a * b) = rOf (a * b) := by unfold rOf; rw [Int.mul_emod, Int.emod_emod, ← Int.mul_emod]
theorem rMul_ofr (a b : Int) : rOf (a * rOf b) = rOf (a * b) := by rw [Int.mul_comm, rMul_ofl, Int.mul_comm]
theorem rPow_of (a : Int) (n : Nat) : rOf (rOf a ^ n) = rOf (a ^ n) := by
  induction n with
  | zero => rw [Int.pow_zero, Int.pow_zero]
  | succ n ih => rw [Int.pow_succ, Int.pow_succ, ← rMul_ofl, ih, rMul_ofl, rMul_ofr]

theorem powInv_start (a : Int) (n : Nat) : PowInv (rPow a n) 1 (rOf a) n := by
  unfold PowInv rPow
  rw [if_neg (by omega), Int.one_mul, rPow_of, Int.toNat_natCast]
theorem sq_pow (s : Int) (j : Nat) : s ^ (2 * j) = (s * s) ^ j := by rw [Int.pow_mul, Int.pow_succ, Int.pow_succ, Int.pow_zero, Int.one_mul]
theorem powInv_even {A p s : Int} {j k : Nat} (h : PowInv A p s k) (e : k = 2 * j) : PowInv A p (rMul s s) j := by
  subst e
  unfold PowInv at *
  rw [← h, sq_pow, ← rMul_ofr, rMul, rPow_of, rMul_ofr]
theorem powInv_odd {A p s : Int} {j k : Nat} (h : PowInv A p s k) (e : k = 2 * j + 1) : PowInv A (rMul p s) (rMul s s) j := by
  subst e
  unfold PowInv at *
  rw [← h, Int.pow_succ, sq_pow, rMul, rMul_ofl, ← rMul_ofr, rMul, rPow_of, rMul_ofr]
  congr 1
  rw [Int.mul_assoc, Int.mul_comm s]
theorem powInv_end {A p s : Int} (h : PowInv A p s 0) (h0 : 0 ≤ p) (h1 : p ≤ 3328) : p = A := by
  unfold PowInv at h
  rw [Int.pow_zero, Int.mul_one, rOf_small p h0 h1] at h
  exact h
theorem rPow_neg (a n : Int) (h : n < 0) : rPow a n = 0 := by unfold rPow; rw [if_pos h]

def rev8 (v : Int) : Int := v % 2 * 128 + v / 2 % 2 * 64 + v / 4 % 2 * 32 + v / 8 % 2 * 16 + v / 16 % 2 * 8 + v / 32 % 2 * 4 + v / 64 % 2 * 2 + v / 128 % 2
def turn (i : Int) : Int := i % 2 * 64 + i / 2 % 2 * 32 + i / 4 % 2 * 16 + i / 8 % 2 * 8 + i / 16 % 2 * 4 + i / 32 % 2 * 2 + i / 64 % 2
def rRoot (i : Int) : Int := rPow 17 (turn i)
theorem rev8_lo (v : Int) : 0 ≤ rev8 v := by unfold rev8; omega
theorem rev8_hi (v : Int) : rev8 v ≤ 255 := by unfold rev8; omega
theorem rev8_turn (i : Int) : rev8 (i % 256) / 2 = turn i := by
  have e0 : i % 256 % 2 = i % 2 := by omega
  have e1 : i % 256 / 2 % 2 = i / 2 % 2 := by omega
  have e2 : i % 256 / 4 % 2 = i / 4 % 2 := by omega
  have e3 : i % 256 / 8 % 2 = i / 8 % 2 := by omega
  have e4 : i % 256 / 16 % 2 = i / 16 % 2 := by omega
  have e5 : i % 256 / 32 % 2 = i / 32 % 2 := by omega
  have e6 : i % 256 / 64 % 2 = i / 64 % 2 := by omega
  have b7 : 0 ≤ i % 256 / 128 % 2 ∧ i % 256 / 128 % 2 ≤ 1 := by omega
  unfold rev8 turn
  rw [e0, e1, e2, e3, e4, e5, e6]
  generalize i % 256 / 128 % 2 = z at b7
  generalize i % 2 = a0
  generalize i / 2 % 2 = a1
  generalize i / 4 % 2 = a2
  generalize i / 8 % 2 = a3
  generalize i / 16 % 2 = a4
  generalize i / 32 % 2 = a5
  generalize i / 64 % 2 = a6
  omega
def tpart (x : Int) : Nat → Int
  | 0 => 0
  | 1 => x % 2
  | 2 => x % 2 * 2 + x / 2 % 2
  | 3 => x % 2 * 4 + x / 2 % 2 * 2 + x / 4 % 2
  | 4 => x % 2 * 8 + x / 2 % 2 * 4 + x / 4 % 2 * 2 + x / 8 % 2
  | 5 => x % 2 * 16 + x / 2 % 2 * 8 + x / 4 % 2 * 4 + x / 8 % 2 * 2 + x / 16 % 2
  | 6 => x % 2 * 32 + x / 2 % 2 * 16 + x / 4 % 2 * 8 + x / 8 % 2 * 4 + x / 16 % 2 * 2 + x / 32 % 2
  | _ => turn x
theorem tpart_s0 (x : Int) : 2 * tpart x 0 + x % 2 = tpart x 1 := by simp only [tpart]; omega
theorem tpart_b0 (x : Int) : 0 ≤ tpart x 0 ∧ tpart x 0 ≤ 127 := by simp only [tpart]; omega
theorem tpart_s1 (x : Int) : 2 * tpart x 1 + x / 2 % 2 = tpart x 2 := by simp only [tpart]; omega
theorem tpart_b1 (x : Int) : 0 ≤ tpart x 1 ∧ tpart x 1 ≤ 127 := by simp only [tpart]; omega
theorem tpart_s2 (x : Int) : 2 * tpart x 2 + x / 4 % 2 = tpart x 3 := by simp only [tpart]; omega
theorem tpart_b2 (x : Int) : 0 ≤ tpart x 2 ∧ tpart x 2 ≤ 127 := by simp only [tpart]; omega
theorem tpart_s3 (x : Int) : 2 * tpart x 3 + x / 8 % 2 = tpart x 4 := by simp only [tpart]; omega
theorem tpart_b3 (x : Int) : 0 ≤ tpart x 3 ∧ tpart x 3 ≤ 127 := by simp only [tpart]; omega
theorem tpart_s4 (x : Int) : 2 * tpart x 4 + x / 16 % 2 = tpart x 5 := by simp only [tpart]; omega
theorem tpart_b4 (x : Int) : 0 ≤ tpart x 4 ∧ tpart x 4 ≤ 127 := by simp only [tpart]; omega
theorem tpart_s5 (x : Int) : 2 * tpart x 5 + x / 32 % 2 = tpart x 6 := by simp only [tpart]; omega
theorem tpart_b5 (x : Int) : 0 ≤ tpart x 5 ∧ tpart x 5 ≤ 127 := by simp only [tpart]; omega
theorem tpart_s6 (x : Int) : 2 * tpart x 6 + x / 64 % 2 = tpart x 7 := by simp only [tpart, turn]; omega
theorem tpart_b6 (x : Int) : 0 ≤ tpart x 6 ∧ tpart x 6 ≤ 127 := by simp only [tpart]; omega
theorem tpart_b7 (x : Int) : 0 ≤ turn x ∧ turn x ≤ 127 := by simp only [turn]; omega

def rSquash (d x : Int) : Int := if 1 ≤ d ∧ d ≤ 11 then (rOf x * 2 ^ d.toNat + 1664) / 3329 % 2 ^ d.toNat else 0
def rStretch (d y : Int) : Int := if 1 ≤ d ∧ d ≤ 11 then (3329 * (y % 2 ^ d.toNat) + 2 ^ (d.toNat - 1)) / 2 ^ d.toNat else 0
theorem rSquash_no (d x : Int) (h : d < 1 ∨ 11 < d) : rSquash d x = 0 := by unfold rSquash; rw [if_neg (by omega)]
theorem rStretch_no (d y : Int) (h : d < 1 ∨ 11 < d) : rStretch d y = 0 := by unfold rStretch; rw [if_neg (by omega)]
theorem rSquash_1 (x : Int) : rSquash 1 x = (rOf x * 2 + 1664) / 3329 % 2 := rfl
theorem rStretch_1 (y : Int) : rStretch 1 y = (3329 * (y % 2) + 1) / 2 := rfl
theorem refSquash_1 (x : Int) : (2 * rOf x * 2 + 3329) / 6658 % 2 = rSquash 1 x := by
  rw [rSquash_1, show (2 * rOf x * 2 + 3329) / 6658 = (rOf x * 2 + 1664) / 3329 by omega]
theorem refStretch_1 (y : Int) : (6658 * (y % 2) + 2) / 4 = rStretch 1 y := by rw [rStretch_1]; omega
theorem rSquash_2 (x : Int) : rSquash 2 x = (rOf x * 4 + 1664) / 3329 % 4 := rfl
theorem rStretch_2 (y : Int) : rStretch 2 y = (3329 * (y % 4) + 2) / 4 := rfl
theorem refSquash_2 (x : Int) : (2 * rOf x * 4 + 3329) / 6658 % 4 = rSquash 2 x := by
  rw [rSquash_2, show (2 * rOf x * 4 + 3329) / 6658 = (rOf x * 4 + 1664) / 3329 by omega]
theorem refStretch_2 (y : Int) : (6658 * (y % 4) + 4) / 8 = rStretch 2 y := by rw [rStretch_2]; omega
theorem rSquash_3 (x : Int) : rSquash 3 x = (rOf x * 8 + 1664) / 3329 % 8 := rfl
theorem rStretch_3 (y : Int) : rStretch 3 y = (3329 * (y % 8) + 4) / 8 := rfl
theorem refSquash_3 (x : Int) : (2 * rOf x * 8 + 3329) / 6658 % 8 = rSquash 3 x := by
  rw [rSquash_3, show (2 * rOf x * 8 + 3329) / 6658 = (rOf x * 8 + 1664) / 3329 by omega]
theorem refStretch_3 (y : Int) : (6658 * (y % 8) + 8) / 16 = rStretch 3 y := by rw [rStretch_3]; omega
theorem rSquash_4 (x : Int) : rSquash 4 x = (rOf x * 16 + 1664) / 3329 % 16 := rfl
theorem rStretch_4 (y : Int) : rStretch 4 y = (3329 * (y % 16) + 8) / 16 := rfl
theorem refSquash_4 (x : Int) : (2 * rOf x * 16 + 3329) / 6658 % 16 = rSquash 4 x := by
  rw [rSquash_4, show (2 * rOf x * 16 + 3329) / 6658 = (rOf x * 16 + 1664) / 3329 by omega]
theorem refStretch_4 (y : Int) : (6658 * (y % 16) + 16) / 32 = rStretch 4 y := by rw [rStretch_4]; omega
theorem rSquash_5 (x : Int) : rSquash 5 x = (rOf x * 32 + 1664) / 3329 % 32 := rfl
theorem rStretch_5 (y : Int) : rStretch 5 y = (3329 * (y % 32) + 16) / 32 := rfl
theorem refSquash_5 (x : Int) : (2 * rOf x * 32 + 3329) / 6658 % 32 = rSquash 5 x := by
  rw [rSquash_5, show (2 * rOf x * 32 + 3329) / 6658 = (rOf x * 32 + 1664) / 3329 by omega]
theorem refStretch_5 (y : Int) : (6658 * (y % 32) + 32) / 64 = rStretch 5 y := by rw [rStretch_5]; omega
theorem rSquash_6 (x : Int) : rSquash 6 x = (rOf x * 64 + 1664) / 3329 % 64 := rfl
theorem rStretch_6 (y : Int) : rStretch 6 y = (3329 * (y % 64) + 32) / 64 := rfl
theorem refSquash_6 (x : Int) : (2 * rOf x * 64 + 3329) / 6658 % 64 = rSquash 6 x := by
  rw [rSquash_6, show (2 * rOf x * 64 + 3329) / 6658 = (rOf x * 64 + 1664) / 3329 by omega]
theorem refStretch_6 (y : Int) : (6658 * (y % 64) + 64) / 128 = rStretch 6 y := by rw [rStretch_6]; omega
theorem rSquash_7 (x : Int) : rSquash 7 x = (rOf x * 128 + 1664) / 3329 % 128 := rfl
theorem rStretch_7 (y : Int) : rStretch 7 y = (3329 * (y % 128) + 64) / 128 := rfl
theorem refSquash_7 (x : Int) : (2 * rOf x * 128 + 3329) / 6658 % 128 = rSquash 7 x := by
  rw [rSquash_7, show (2 * rOf x * 128 + 3329) / 6658 = (rOf x * 128 + 1664) / 3329 by omega]
theorem refStretch_7 (y : Int) : (6658 * (y % 128) + 128) / 256 = rStretch 7 y := by rw [rStretch_7]; omega
theorem rSquash_8 (x : Int) : rSquash 8 x = (rOf x * 256 + 1664) / 3329 % 256 := rfl
theorem rStretch_8 (y : Int) : rStretch 8 y = (3329 * (y % 256) + 128) / 256 := rfl
theorem refSquash_8 (x : Int) : (2 * rOf x * 256 + 3329) / 6658 % 256 = rSquash 8 x := by
  rw [rSquash_8, show (2 * rOf x * 256 + 3329) / 6658 = (rOf x * 256 + 1664) / 3329 by omega]
theorem refStretch_8 (y : Int) : (6658 * (y % 256) + 256) / 512 = rStretch 8 y := by rw [rStretch_8]; omega
theorem rSquash_9 (x : Int) : rSquash 9 x = (rOf x * 512 + 1664) / 3329 % 512 := rfl
theorem rStretch_9 (y : Int) : rStretch 9 y = (3329 * (y % 512) + 256) / 512 := rfl
theorem refSquash_9 (x : Int) : (2 * rOf x * 512 + 3329) / 6658 % 512 = rSquash 9 x := by
  rw [rSquash_9, show (2 * rOf x * 512 + 3329) / 6658 = (rOf x * 512 + 1664) / 3329 by omega]
theorem refStretch_9 (y : Int) : (6658 * (y % 512) + 512) / 1024 = rStretch 9 y := by rw [rStretch_9]; omega
theorem rSquash_10 (x : Int) : rSquash 10 x = (rOf x * 1024 + 1664) / 3329 % 1024 := rfl
theorem rStretch_10 (y : Int) : rStretch 10 y = (3329 * (y % 1024) + 512) / 1024 := rfl
theorem refSquash_10 (x : Int) : (2 * rOf x * 1024 + 3329) / 6658 % 1024 = rSquash 10 x := by
  rw [rSquash_10, show (2 * rOf x * 1024 + 3329) / 6658 = (rOf x * 1024 + 1664) / 3329 by omega]
theorem refStretch_10 (y : Int) : (6658 * (y % 1024) + 1024) / 2048 = rStretch 10 y := by rw [rStretch_10]; omega
theorem rSquash_11 (x : Int) : rSquash 11 x = (rOf x * 2048 + 1664) / 3329 % 2048 := rfl
theorem rStretch_11 (y : Int) : rStretch 11 y = (3329 * (y % 2048) + 1024) / 2048 := rfl
theorem refSquash_11 (x : Int) : (2 * rOf x * 2048 + 3329) / 6658 % 2048 = rSquash 11 x := by
  rw [rSquash_11, show (2 * rOf x * 2048 + 3329) / 6658 = (rOf x * 2048 + 1664) / 3329 by omega]
theorem refStretch_11 (y : Int) : (6658 * (y % 2048) + 2048) / 4096 = rStretch 11 y := by rw [rStretch_11]; omega
end Go.Proofs.YtlaejnbkgikfcaaDoor.Ring
