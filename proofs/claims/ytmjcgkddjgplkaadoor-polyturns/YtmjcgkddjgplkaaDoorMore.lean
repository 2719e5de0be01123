/- More plain facts on numbers modulo 3329: laws of sums, products and powers. -/
import Derived.Test.YtmjcgkddjgplkaaDoorMath
namespace Go.Proofs.YtmjcgkddjgplkaaDoor.Ring

theorem rAdd_comm (a b : Int) : rAdd a b = rAdd b a := by unfold rAdd; rw [Int.add_comm]
theorem rMul_comm (a b : Int) : rMul a b = rMul b a := by unfold rMul; rw [Int.mul_comm]
theorem rMul_rAdd (a b c : Int) : rMul a (rAdd b c) = rAdd (rMul a b) (rMul a c) := by
  unfold rMul rAdd
  rw [rMul_ofr, Int.mul_add]
  exact (rAdd_of (a * b) (a * c)).symm
theorem rSub_rAdd (a b : Int) (h0 : 0 ≤ a) (h1 : a ≤ 3328) : rSub (rAdd a b) b = a := by
  unfold rSub rAdd rOf; omega
theorem rPow_nat (a : Int) (n : Nat) : rPow a n = rOf (a ^ n) := by
  unfold rPow; rw [if_neg (by omega), Int.toNat_natCast]
theorem rPow_add_nat (a : Int) (n m : Nat) : rPow a ((n : Int) + m) = rMul (rPow a n) (rPow a m) := by
  rw [← Int.natCast_add, rPow_nat, rPow_nat, rPow_nat, Int.pow_add]; exact (rMul_of _ _).symm
theorem rPow_add (a n m : Int) (h0 : 0 ≤ n) (h1 : 0 ≤ m) : rPow a (n + m) = rMul (rPow a n) (rPow a m) := by
  obtain ⟨n, rfl⟩ : ∃ k : Nat, n = k := ⟨n.toNat, by omega⟩
  obtain ⟨m, rfl⟩ : ∃ k : Nat, m = k := ⟨m.toNat, by omega⟩
  exact rPow_add_nat a n m
theorem rPow_mul (a n m : Int) (h0 : 0 ≤ n) (h1 : 0 ≤ m) : rPow (rPow a n) m = rPow a (n * m) := by
  obtain ⟨n, rfl⟩ : ∃ k : Nat, n = k := ⟨n.toNat, by omega⟩
  obtain ⟨m, rfl⟩ : ∃ k : Nat, m = k := ⟨m.toNat, by omega⟩
  rw [← Int.natCast_mul, rPow_nat, rPow_nat, rPow_nat, rPow_of, Int.pow_mul]
theorem rMul_one (a n : Int) : rMul (rPow a n) 1 = rPow a n := by
  unfold rMul rPow
  rw [Int.mul_one]
  by_cases h : n < 0
  · rw [if_pos h]; rfl
  · rw [if_neg h, rOf_mod]
theorem round256 (n : Int) (h : 0 ≤ n) : rPow 17 (n + 256) = rPow 17 n := by
  rw [rPow_add 17 n 256 h (by omega), show rPow 17 256 = 1 by decide +kernel, rMul_one]
theorem round128 (n : Int) (h : 0 ≤ n) : rPow 17 (n + 128) = rSub 0 (rPow 17 n) := by
  rw [rPow_add 17 n 128 h (by omega), show rPow 17 128 = 3328 by decide +kernel]
  unfold rMul rSub rOf; omega

theorem fermat_all : (List.range 3329).all (fun i => i == 0 || i ^ 3328 % 3329 == 1) = true := by decide +kernel
theorem fermat (a : Nat) (h0 : a ≠ 0) (h : a < 3329) : a ^ 3328 % 3329 = 1 := by
  have := List.all_eq_true.mp fermat_all a (List.mem_range.mpr h)
  rw [Bool.or_eq_true, beq_iff_eq, beq_iff_eq] at this
  exact this.resolve_left h0
theorem cast_mod (n : Nat) : (n : Int) % 3329 = ((n % 3329 : Nat) : Int) := rfl
theorem undone_nat (a : Nat) (h0 : a ≠ 0) (h : a < 3329) : rMul a (rPow a 3327) = 1 := by
  have e := rPow_add_nat a 1 3327
  have f := fermat a h0 h
  have g : rPow (a : Int) ((1 : Nat) : Int) = rOf a := by rw [rPow_nat, Int.pow_succ, Int.pow_zero, Int.one_mul]
  have k : ((1 : Nat) : Int) + ((3327 : Nat) : Int) = ((3328 : Nat) : Int) := rfl
  rw [g, k, rPow_nat] at e
  have r : rMul (rOf a) (rPow (a : Int) ((3327 : Nat) : Int)) = rMul a (rPow (a : Int) ((3327 : Nat) : Int)) := by unfold rMul; rw [rMul_ofl]
  rw [r] at e
  show rMul a (rPow a ((3327 : Nat) : Int)) = 1
  rw [← e]
  have q : ((a : Int)) ^ 3328 = ((a ^ 3328 : Nat) : Int) := (Int.natCast_pow a 3328).symm
  rw [q]
  unfold rOf
  rw [cast_mod, f]; rfl
theorem undone (a : Int) (h0 : 0 ≤ a) (h1 : a ≤ 3328) (h : a ≠ 0) : rMul a (rPow a 3327) = 1 := by
  obtain ⟨n, rfl⟩ : ∃ k : Nat, a = k := ⟨a.toNat, by omega⟩
  exact undone_nat n (by omega) (by omega)
end Go.Proofs.YtmjcgkddjgplkaaDoor.Ring
