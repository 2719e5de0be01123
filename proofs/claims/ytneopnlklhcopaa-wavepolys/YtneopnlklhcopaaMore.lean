/- More plain facts on numbers modulo 8380417: laws of sums, products and powers. -/
import Derived.Test.YtneopnlklhcopaaMath
namespace Go.Proofs.Ytneopnlklhcopaa.Ring

theorem rAdd_comm (a b : Int) : rAdd a b = rAdd b a := by unfold rAdd; rw [Int.add_comm]
theorem rMul_comm (a b : Int) : rMul a b = rMul b a := by unfold rMul; rw [Int.mul_comm]
theorem rMul_rAdd (a b c : Int) : rMul a (rAdd b c) = rAdd (rMul a b) (rMul a c) := by
  unfold rMul rAdd
  rw [rMul_ofr, Int.mul_add]
  exact (rAdd_of (a * b) (a * c)).symm
theorem rSub_rAdd (a b : Int) (h0 : 0 ≤ a) (h1 : a ≤ 8380416) : rSub (rAdd a b) b = a := by
  unfold rSub rAdd rOf; omega
theorem rPow_nat (a : Int) (n : Nat) : rPow a n = rOf (a ^ n) := by
  unfold rPow; rw [if_neg (by omega), Int.toNat_natCast]
theorem rPow_add_nat (a : Int) (n m : Nat) : rPow a ((n : Int) + m) = rMul (rPow a n) (rPow a m) := by
  rw [← Int.natCast_add, rPow_nat, rPow_nat, rPow_nat, Int.pow_add]; exact (rMul_of _ _).symm
theorem rPow_add (a n m : Int) (h0 : 0 ≤ n) (h1 : 0 ≤ m) : rPow a (n + m) = rMul (rPow a n) (rPow a m) := by
  obtain ⟨n, rfl⟩ : ∃ k : Nat, n = k := ⟨n.toNat, by omega⟩
  obtain ⟨m, rfl⟩ : ∃ k : Nat, m = k := ⟨m.toNat, by omega⟩
  exact rPow_add_nat a n m
theorem rPow_mul (a n m : Int) (h0 : 0 ≤ n) (h1 : 0 ≤ m) : rPow (rPow a n) m = rPow a (n * m) := by
  obtain ⟨n, rfl⟩ : ∃ k : Nat, n = k := ⟨n.toNat, by omega⟩
  obtain ⟨m, rfl⟩ : ∃ k : Nat, m = k := ⟨m.toNat, by omega⟩
  rw [← Int.natCast_mul, rPow_nat, rPow_nat, rPow_nat, rPow_of, Int.pow_mul]
end Go.Proofs.Ytneopnlklhcopaa.Ring
