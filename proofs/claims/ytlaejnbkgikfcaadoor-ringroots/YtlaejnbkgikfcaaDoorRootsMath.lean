/- The roots: no two of the 128 are alike, and each one's odd power raised to 128 is -1. -/
import Derived.Test.YtlaejnbkgikfcaaDoorMore
namespace Go.Proofs.YtlaejnbkgikfcaaDoor.Ring

def sq17 (i : Int) : Int := rMul (rMul (rRoot i) (rRoot i)) 17
def turnN (i : Nat) : Nat := i % 2 * 64 + i / 2 % 2 * 32 + i / 4 % 2 * 16 + i / 8 % 2 * 8 + i / 16 % 2 * 4 + i / 32 % 2 * 2 + i / 64 % 2
def sqN (i : Nat) : Nat := 17 ^ (2 * turnN i + 1) % 3329
theorem turn_nat (i : Nat) : turn i = turnN i := by unfold turn turnN; omega
theorem sq17_nat (i : Nat) : sq17 i = sqN i := by
  unfold sq17 rRoot
  rw [turn_nat, ← rPow_add_nat]
  have e : rMul (rPow 17 ((turnN i : Int) + turnN i)) 17 = rPow 17 ((turnN i + turnN i + 1 : Nat) : Int) := by
    rw [Int.natCast_add (turnN i + turnN i) 1, rPow_add_nat 17 (turnN i + turnN i) 1, show rPow 17 ((1 : Nat) : Int) = 17 by decide +kernel, Int.natCast_add]
  rw [e, rPow_nat, show turnN i + turnN i + 1 = 2 * turnN i + 1 by omega]
  unfold rOf sqN
  rw [show (17 : Int) = ((17 : Nat) : Int) by rfl, ← Int.natCast_pow, cast_mod]
theorem apart_all : (List.range 128).all (fun i => (List.range 128).all fun k => sqN i != sqN k || i == k) = true := by decide +kernel
theorem minus_all : (List.range 128).all (fun i => sqN i ^ 128 % 3329 == 3328) = true := by decide +kernel
theorem sqN_inj (i k : Nat) (hi : i < 128) (hk : k < 128) (h : sqN i = sqN k) : i = k := by
  have := List.all_eq_true.mp (List.all_eq_true.mp apart_all i (List.mem_range.mpr hi)) k (List.mem_range.mpr hk)
  rw [Bool.or_eq_true, beq_iff_eq, bne_iff_ne] at this
  exact this.resolve_left (fun g => g h)
theorem sqN_minus (i : Nat) (hi : i < 128) : sqN i ^ 128 % 3329 = 3328 := by
  have := List.all_eq_true.mp minus_all i (List.mem_range.mpr hi)
  exact beq_iff_eq.mp this
theorem sq17_inj (i k : Int) (i0 : 0 ≤ i) (i1 : i ≤ 127) (k0 : 0 ≤ k) (k1 : k ≤ 127) (h : sq17 i = sq17 k) : i = k := by
  obtain ⟨i, rfl⟩ : ∃ n : Nat, i = n := ⟨i.toNat, by omega⟩
  obtain ⟨k, rfl⟩ : ∃ n : Nat, k = n := ⟨k.toNat, by omega⟩
  rw [sq17_nat, sq17_nat] at h
  have := sqN_inj i k (by omega) (by omega) (by omega)
  omega
theorem sq17_minus (i : Int) (i0 : 0 ≤ i) (i1 : i ≤ 127) : rPow (sq17 i) 128 = 3328 := by
  obtain ⟨i, rfl⟩ : ∃ n : Nat, i = n := ⟨i.toNat, by omega⟩
  have e := rPow_nat (sqN i : Int) 128
  rw [← Int.natCast_pow] at e
  rw [sq17_nat]
  show rPow (sqN i : Int) ((128 : Nat) : Int) = 3328
  rw [e]
  unfold rOf
  rw [cast_mod, sqN_minus i (by omega)]; rfl
theorem root_again (i : Int) : rRoot (i + 128) = rRoot i := by
  unfold rRoot
  have : turn (i + 128) = turn i := by unfold turn; omega
  rw [this]
end Go.Proofs.YtlaejnbkgikfcaaDoor.Ring
