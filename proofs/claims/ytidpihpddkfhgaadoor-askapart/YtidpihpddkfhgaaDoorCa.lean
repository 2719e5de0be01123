/- A number's eight bytes, the highest first, and back. Nothing of the program. -/
import Derived.Test.YtidpihpddkfhgaaDoorNums
import Derived.WalkKit
namespace Go.Proofs.YtidpihpddkfhgaaDoor.Bit
open Go Go.RowKit

/-- a number as 64 bits -/
def u64 (n : Int) : Nat := (n % 18446744073709551616).toNat
theorem u64_lt (n : Int) : u64 n < 18446744073709551616 := by
  unfold u64
  have h0 := Int.emod_nonneg n (b := 18446744073709551616) (by decide)
  have h1 := Int.emod_lt_of_pos n (b := 18446744073709551616) (by decide)
  omega
theorem u64_cast (n : Int) : ((u64 n : Nat) : Int) = n % 18446744073709551616 := by
  unfold u64
  have h0 := Int.emod_nonneg n (b := 18446744073709551616) (by decide)
  omega
/-- the byte of the weight 256^k -/
def byteAt (n : Int) (k : Nat) : Int := ((u64 n / 256 ^ k % 256 : Nat) : Int)
theorem byteAt_bd (n : Int) (k : Nat) : 0 ≤ byteAt n k ∧ byteAt n k < 256 := by
  unfold byteAt
  have := Nat.mod_lt (u64 n / 256 ^ k) (show 0 < 256 by decide)
  omega
/-- the first m of the eight bytes, the highest first -/
def beTo (n : Int) (m : Nat) : List Int := (List.range m).map fun i => byteAt n (7 - i)
def be8 (n : Int) : List Int := beTo n 8
theorem beTo_len (n : Int) (m : Nat) : (beTo n m).length = m := by simp [beTo]
theorem beTo_succ (n : Int) (m : Nat) : beTo n (m + 1) = beTo n m ++ [byteAt n (7 - m)] := by
  unfold beTo
  rw [List.range_succ, List.map_append]; rfl
theorem beTo_at (n : Int) {m i : Nat} (h : i < m) : (beTo n m).getD i 0 = byteAt n (7 - i) := by
  unfold beTo
  rw [List.getD_eq_getElem?_getD, List.getElem?_map, List.getElem?_range h]; rfl
theorem be8_len (n : Int) : (be8 n).length = 8 := beTo_len n 8
theorem be8_fit (n : Int) : Fit 8 (be8 n) := fun i hi => by
  rw [be8_len] at hi
  unfold be8
  rw [beTo_at n hi]
  exact byteAt_bd n _
/-- the number that the first k bytes tell -/
def valTo (l : List Int) : Nat → Nat
  | 0 => 0
  | k + 1 => valTo l k * 256 + (l.getD k 0).toNat
theorem valTo_lt {l : List Int} (h : Fit 8 l) : ∀ k, k ≤ l.length → valTo l k < 256 ^ k := by
  intro k
  induction k with
  | zero => intro _; exact Nat.one_pos
  | succ k ih =>
    intro hk
    have h1 := ih (by omega)
    have h2 := h k (by omega)
    show valTo l k * 256 + (l.getD k 0).toNat < 256 ^ (k + 1)
    rw [Nat.pow_succ]
    have h3 : (l.getD k 0).toNat < 256 := by have : (2 : Int) ^ 8 = 256 := by decide
                                             omega
    have : (valTo l k + 1) * 256 ≤ 256 ^ k * 256 := Nat.mul_le_mul_right _ h1
    omega
theorem div_split (a k : Nat) : a / 256 ^ (k + 1) * 256 + a / 256 ^ k % 256 = a / 256 ^ k := by
  rw [Nat.pow_succ, ← Nat.div_div_eq_div_mul]
  omega
theorem val_be (n : Int) : ∀ k, k ≤ 8 → valTo (be8 n) k = u64 n / 256 ^ (8 - k) := by
  intro k
  induction k with
  | zero =>
    intro _
    show 0 = _
    rw [Nat.div_eq_of_lt (by have := u64_lt n; simpa using this)]
  | succ k ih =>
    intro hk
    show valTo (be8 n) k * 256 + ((be8 n).getD k 0).toNat = _
    have e : (be8 n).getD k 0 = byteAt n (7 - k) := beTo_at n (by omega)
    rw [ih (by omega), e]
    unfold byteAt
    rw [Int.toNat_natCast, show 8 - k = (7 - k) + 1 by omega, show 8 - (k + 1) = 7 - k by omega]
    exact div_split _ _
theorem val_be8 (n : Int) : valTo (be8 n) 8 = u64 n := by
  rw [val_be n 8 (Nat.le_refl _)]
  simp
theorem wrap_u64 {n : Int} (h0 : -9223372036854775808 ≤ n) (h1 : n ≤ 9223372036854775807) : wrap64 (u64 n : Nat) = n := by
  rw [u64_cast]
  unfold wrap64
  omega
/-- numbers that have the same bytes are one -/
theorem be8_inj {a b : Int} (ha : -9223372036854775808 ≤ a ∧ a ≤ 9223372036854775807) (hb : -9223372036854775808 ≤ b ∧ b ≤ 9223372036854775807) (h : be8 a = be8 b) : a = b := by
  have e := val_be8 a
  rw [h, val_be8 b] at e
  rw [← wrap_u64 ha.1 ha.2, ← wrap_u64 hb.1 hb.2, e]
/-- the bytes of several numbers, one behind the other -/
def beL : List Int → List Int
  | [] => []
  | n :: r => be8 n ++ beL r
theorem beL_len : ∀ ns : List Int, (beL ns).length = 8 * ns.length := by
  intro ns
  induction ns with
  | nil => rfl
  | cons n r ih => show List.length (_ ++ _) = _; rw [List.length_append, be8_len, ih, List.length_cons]; omega
theorem beL_app (a b : List Int) : beL (a ++ b) = beL a ++ beL b := by
  induction a with
  | nil => rfl
  | cons n r ih => show be8 n ++ beL (r ++ b) = (be8 n ++ beL r) ++ beL b; rw [ih, List.append_assoc]
theorem beL_one (n : Int) : beL [n] = be8 n := by show be8 n ++ [] = _; rw [List.append_nil]
end Go.Proofs.YtidpihpddkfhgaaDoor.Bit
