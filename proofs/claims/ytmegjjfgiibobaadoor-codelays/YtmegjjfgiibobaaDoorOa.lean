/- Numbers of two's complement, as the landed code reckons them. Nothing of the program. -/
import Derived.Test.YtmegjjfgiibobaaDoorCe
namespace Go.Proofs.YtmegjjfgiibobaaDoor
open Go.RowKit Slices Go.Proofs.YtmegjjfgiibobaaDoor.Bit

theorem bits_or64 (a b : Int) : bits .or .i64 a b = IntKind.i64.wrap ((BitVec.ofInt 64 a ||| BitVec.ofInt 64 b).toNat : Nat) := rfl
/-- a byte behind a number whose lowest byte is 0 -/
theorem or_low (v x : Nat) (hv : v < 72057594037927936) (hx : x < 256) : bits .or .i64 (wrap64 ((v : Int) * 256)) (x : Int) = wrap64 ((v * 256 + x : Nat) : Int) := by
  rw [bits_or64, BitVec.toNat_or, BitVec.toNat_ofInt, BitVec.toNat_ofInt]
  have e1 : (wrap64 ((v : Int) * 256) % ((2 ^ 64 : Nat) : Int)).toNat = 2 ^ 8 * v := by
    have e : ((2 ^ 64 : Nat) : Int) = 18446744073709551616 := by decide
    rw [e]
    unfold wrap64
    omega
  have e2 : ((x : Int) % ((2 ^ 64 : Nat) : Int)).toNat = x := by
    have e : ((2 ^ 64 : Nat) : Int) = 18446744073709551616 := by decide
    rw [e]
    omega
  rw [e1, e2, ← Nat.two_pow_add_eq_or_of_lt (i := 8) hx v, IntKind.wrap_i64]
  unfold wrap64
  omega
theorem wrap_small {v : Nat} (hv : v < 72057594037927936) : wrap64 (v : Int) = v := by unfold wrap64; omega
/-- the byte of a number that stands so many bits up -/
theorem byte_shr (n : Int) (k : Nat) (hk : k ≤ 7) : (n / 2 ^ (8 * k)) % 256 = byteAt n k := by
  have h : ∀ P Q : Int, 0 < P → P * Q = 18446744073709551616 → Q % 256 = 0 → n / P % 256 = (n % 18446744073709551616) / P % 256 := by
    intro P Q hP hPQ hQ
    have e : n = n % 18446744073709551616 + P * (Q * (n / 18446744073709551616)) := by
      have := Int.emod_add_mul_ediv n 18446744073709551616
      rw [← Int.mul_assoc, hPQ]
      omega
    obtain ⟨q, hq⟩ := Int.dvd_of_emod_eq_zero hQ
    have e3 : (n % 18446744073709551616 + P * (Q * (n / 18446744073709551616))) / P = n % 18446744073709551616 / P + Q * (n / 18446744073709551616) := Int.add_mul_ediv_left _ _ (by omega)
    have e2 : n / P = n % 18446744073709551616 / P + Q * (n / 18446744073709551616) := by rw [← e3, ← e]
    rw [e2, hq, Int.mul_assoc]
    omega
  unfold byteAt
  rw [Int.natCast_emod, Int.natCast_ediv, u64_cast]
  have hp : (2 : Int) ^ (8 * k) = ((256 ^ k : Nat) : Int) := by rw [pow_cast, Nat.pow_mul]
  rw [hp]
  refine h _ ((256 ^ (8 - k) : Nat) : Int) ?_ ?_ ?_
  · have := Nat.pow_pos (n := k) (show 0 < 256 by decide)
    omega
  · rw [← Int.natCast_mul, ← Nat.pow_add, show k + (8 - k) = 8 by omega]
    decide
  · rw [show 8 - k = (7 - k) + 1 by omega, Nat.pow_succ, Int.natCast_mul]
    omega
end Go.Proofs.YtmegjjfgiibobaaDoor
