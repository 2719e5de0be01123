/- What the program's bits come to: numbers that are joined, cut and turned. Nothing of the program. -/
import Derived.Test.YtidpihpddkfhgaaDoorMath
import Derived.Laws.BitsLemmas
import Derived.IntWalk
namespace Go.Proofs.YtidpihpddkfhgaaDoor.Bit
open Go

theorem pow_le62 {d : Nat} (h : d ≤ 62) : (2 : Nat) ^ d ≤ 4611686018427387904 := Nat.pow_le_pow_right (by decide) h
theorem pow_le24 {d : Nat} (h : d ≤ 24) : (2 : Nat) ^ d ≤ 16777216 := Nat.pow_le_pow_right (by decide) h
theorem pow_cast (d : Nat) : (2 : Int) ^ d = ((2 ^ d : Nat) : Int) := by simp
theorem wraps_i64 (n : Int) (h₀ : 0 ≤ n) (h₁ : n < 2 ^ 63) : IntKind.i64.wrap n = n := by rw [IntKind.wrap_i64]; omega

/-- the d lowest bits of any number of 64 bits -/
theorem and_low (x : Int) {d : Nat} (hd : d ≤ 62) : bits .and .i64 x ((2 ^ d : Nat) - 1 : Int) = x % 2 ^ d := by
  have hp : 0 < 2 ^ d := Nat.two_pow_pos d
  have hle := pow_le62 hd
  have hm : (BitVec.ofInt 64 ((2 ^ d : Nat) - 1 : Int)).toNat = 2 ^ d - 1 := by
    rw [BitVec.toNat_ofInt]
    have : ((2 ^ d : Nat) - 1 : Int) % ((2 ^ 64 : Nat) : Int) = ((2 ^ d - 1 : Nat) : Int) := by omega
    rw [this]; rfl
  have key : (BitVec.ofInt 64 x &&& BitVec.ofInt 64 ((2 ^ d : Nat) - 1 : Int)).toNat = (x % ((2 ^ 64 : Nat) : Int)).toNat % 2 ^ d := by
    rw [BitVec.toNat_and, BitVec.toNat_ofInt, hm, Nat.and_two_pow_sub_one_eq_mod]
  show IntKind.i64.wrap ((BitVec.ofInt 64 x &&& BitVec.ofInt 64 ((2 ^ d : Nat) - 1 : Int)).toNat : Nat) = x % 2 ^ d
  rw [key]
  have h0 : 0 ≤ x % ((2 ^ 64 : Nat) : Int) := Int.emod_nonneg _ (by decide)
  have e : (((x % ((2 ^ 64 : Nat) : Int)).toNat % 2 ^ d : Nat) : Int) = x % 2 ^ d := by
    rw [Int.natCast_emod, Int.toNat_of_nonneg h0, pow_cast]
    exact Int.emod_emod_of_dvd x (Int.natCast_dvd_natCast.mpr (Nat.pow_dvd_pow 2 (by omega)))
  rw [e]
  have l0 : 0 ≤ x % 2 ^ d := Int.emod_nonneg _ (by rw [pow_cast]; omega)
  have l1 : x % 2 ^ d < 2 ^ d := Int.emod_lt_of_pos _ (by rw [pow_cast]; omega)
  rw [pow_cast] at l1 l0 ⊢
  exact wraps_i64 _ l0 (by omega)
theorem and_one (x : Int) : bits .and .i64 x 1 = x % 2 := and_low x (d := 1) (by omega)

/-- numbers of less than 63 bits, one beside the other -/
theorem or_nat {a b : Nat} (ha : a < 2 ^ 63) (hb : b < 2 ^ 63) : bits .or .i64 (a : Int) (b : Int) = ((a ||| b : Nat) : Int) :=
  (bits_nat .i64 63 (by decide) (fun n h0 h1 => wraps_i64 n h0 h1) a b ha hb).2
theorem or_byte {a b : Nat} (ha : a < 256) (hb : b < 256) : bits .or .u8 (a : Int) (b : Int) = ((a ||| b : Nat) : Int) :=
  (bits_nat .u8 8 (by decide) (fun n h0 h1 => wraps_u8 n h0 h1) a b ha hb).2
theorem shl_cast (x n : Nat) : (x : Int) * 2 ^ n = ((x <<< n : Nat) : Int) := by
  rw [Nat.shiftLeft_eq, pow_cast, Int.natCast_mul]

/-- bits behind bits -/
theorem num_join (f : Nat → Bool) (n m : Nat) {x : Nat} (hx : ∀ t, t < m → f (n + t) = x.testBit t) (h : x < 2 ^ m) : num f n ||| (x <<< n) = num f (n + m) := by
  apply Nat.eq_of_testBit_eq
  intro i
  rw [Nat.testBit_or, Nat.testBit_shiftLeft, num_bit, num_bit]
  by_cases h1 : i < n
  · have h2 : ¬ n ≤ i := by omega
    have h3 : i < n + m := by omega
    simp [h1, h2, h3]
  · have h2 : n ≤ i := by omega
    obtain ⟨t, rfl⟩ : ∃ t, i = n + t := ⟨i - n, by omega⟩
    rw [Nat.add_sub_cancel_left]
    by_cases h3 : t < m
    · have h4 : n + t < n + m := by omega
      simp [h1, h2, h4, hx t h3]
    · have h4 : ¬ n + t < n + m := by omega
      have h5 : x.testBit t = false := Nat.testBit_lt_two_pow (Nat.lt_of_lt_of_le h (Nat.pow_le_pow_right (by omega) (by omega)))
      simp [h1, h4, h5]
theorem num_mod (f : Nat → Bool) {n m : Nat} (h : m ≤ n) : num f n % 2 ^ m = num f m := by
  apply Nat.eq_of_testBit_eq
  intro i
  rw [Nat.testBit_mod_two_pow, num_bit, num_bit]
  by_cases h1 : i < m
  · have h2 : i < n := by omega
    simp [h1, h2]
  · simp [h1]
theorem num_div (f : Nat → Bool) {n m : Nat} (_h : m ≤ n) : num f n / 2 ^ m = num (fun t => f (m + t)) (n - m) := by
  apply Nat.eq_of_testBit_eq
  intro i
  rw [Nat.testBit_div_two_pow, num_bit, num_bit]
  by_cases h1 : i < n - m
  · have h2 : m + i < n := by omega
    rw [Nat.add_comm i m]
    simp [h1, h2]
  · have h2 : ¬ i + m < n := by omega
    simp [h1, h2]

/-- whole numbers and natural ones -/
def nat (l : List Int) : List Nat := l.map Int.toNat
def int (l : List Nat) : List Int := l.map Int.ofNat
theorem nat_len (l : List Int) : (nat l).length = l.length := by simp [nat]
theorem int_len (l : List Nat) : (int l).length = l.length := by simp [int]
theorem nat_at (l : List Int) (i : Nat) : (nat l).getD i 0 = (l.getD i 0).toNat := by
  simp only [nat, List.getD_eq_getElem?_getD, List.getElem?_map]
  cases l[i]? <;> rfl
theorem int_at (l : List Nat) (i : Nat) : (int l).getD i 0 = ((l.getD i 0 : Nat) : Int) := by
  simp only [int, List.getD_eq_getElem?_getD, List.getElem?_map]
  cases l[i]? <;> rfl
theorem int_app (l m : List Nat) : int (l ++ m) = int l ++ int m := by simp [int]
theorem int_take (l : List Nat) (n : Nat) : (int l).take n = int (l.take n) := by simp [int]
theorem nat_int (l : List Nat) : nat (int l) = l := by
  unfold nat int
  rw [List.map_map]
  have : (Int.toNat ∘ Int.ofNat) = (id : Nat → Nat) := by funext n; rfl
  rw [this, List.map_id]
theorem int_nat {l : List Int} (h : ∀ i, i < l.length → 0 ≤ l.getD i 0) : int (nat l) = l := by
  apply List.ext_getElem (by simp [int, nat])
  intro i h1 h2
  have := h i h2
  rw [List.getD_eq_getElem?_getD, List.getElem?_eq_getElem h2] at this
  simp [int, nat] at *
  omega

/-- each is a number of d bits -/
def Fit (d : Nat) (xs : List Int) : Prop := ∀ i, i < xs.length → 0 ≤ xs.getD i 0 ∧ xs.getD i 0 < 2 ^ d
theorem Fit.at {d : Nat} {xs : List Int} (h : Fit d xs) {i : Nat} (hi : i < xs.length) : ∃ x : Nat, xs.getD i 0 = x ∧ x < 2 ^ d ∧ (nat xs).getD i 0 = x := by
  obtain ⟨h0, h1⟩ := h i hi
  refine ⟨(xs.getD i 0).toNat, by omega, ?_, nat_at xs i⟩
  rw [pow_cast] at h1
  omega
theorem Fit.nat {d : Nat} {xs : List Int} (h : Fit d xs) : ∀ i, i < (nat xs).length → (nat xs).getD i 0 < 2 ^ d := fun i hi => by
  obtain ⟨x, _, h2, h3⟩ := h.at (i := i) (by rwa [nat_len] at hi)
  rw [h3]; exact h2
theorem not_fit {d : Nat} {xs : List Int} (h : ¬ Fit d xs) : ∃ j, j < xs.length ∧ (xs.getD j 0 < 0 ∨ 2 ^ d ≤ xs.getD j 0) := by
  apply Classical.byContradiction
  intro hne
  apply h
  intro i hi
  apply Classical.byContradiction
  intro g
  exact hne ⟨i, hi, by omega⟩

open Classical in
/-- what is packed, unpacked, cut, as the chapter says -/
noncomputable def packI (d : Int) (xs : List Int) : List Int := if 1 ≤ d ∧ d ≤ 24 ∧ Fit d.toNat xs then int (packN d.toNat (nat xs)) else []
def unpackI (d : Int) (b : List Int) : List Int := if 1 ≤ d ∧ d ≤ 24 then int (unpackN d.toNat (nat b)) else []
def lowI (d x : Int) : Int := if 0 ≤ d ∧ d ≤ 62 then x % 2 ^ d.toNat else 0
def turnP (x : Int) : Nat → Int
  | 0 => 0
  | k + 1 => 2 * turnP x k + x / 2 ^ k % 2
def turnI (d x : Int) : Int := if 0 ≤ d ∧ d ≤ 62 then turnP x d.toNat else 0
theorem packI_yes {d : Nat} {xs : List Int} (h1 : 1 ≤ d) (h2 : d ≤ 24) (hf : Fit d xs) : packI d xs = int (packN d (nat xs)) := by
  unfold packI
  rw [if_pos ⟨by omega, by omega, hf⟩]; rfl
theorem packI_no {d : Int} {xs : List Int} (h : ¬ (1 ≤ d ∧ d ≤ 24 ∧ Fit d.toNat xs)) : packI d xs = [] := by
  unfold packI
  rw [if_neg h]
theorem unpackI_yes {d : Nat} (b : List Int) (h1 : 1 ≤ d) (h2 : d ≤ 24) : unpackI d b = int (unpackN d (nat b)) := by
  unfold unpackI
  rw [if_pos ⟨by omega, by omega⟩]; rfl
theorem unpackI_no {d : Int} (b : List Int) (h : ¬ (1 ≤ d ∧ d ≤ 24)) : unpackI d b = [] := by
  unfold unpackI
  rw [if_neg h]
theorem lowI_yes {d : Nat} (x : Int) (h : d ≤ 62) : lowI d x = x % 2 ^ d := by
  unfold lowI
  rw [if_pos ⟨by omega, by omega⟩]; rfl
theorem lowI_no {d : Int} (x : Int) (h : ¬ (0 ≤ d ∧ d ≤ 62)) : lowI d x = 0 := by
  unfold lowI
  rw [if_neg h]
theorem turnI_yes {d : Nat} (x : Int) (h : d ≤ 62) : turnI d x = turnP x d := by
  unfold turnI
  rw [if_pos ⟨by omega, by omega⟩]; rfl
theorem turnI_no {d : Int} (x : Int) (h : ¬ (0 ≤ d ∧ d ≤ 62)) : turnI d x = 0 := by
  unfold turnI
  rw [if_neg h]
theorem turnP_bd (x : Int) (k : Nat) : 0 ≤ turnP x k ∧ turnP x k < 2 ^ k := by
  induction k with
  | zero => exact ⟨by simp [turnP], by simp [turnP]⟩
  | succ k ih =>
    have : (2 : Int) ^ (k + 1) = 2 * 2 ^ k := by rw [Int.pow_succ]; omega
    rw [turnP, this]
    omega
theorem turnP_nat (x k : Nat) : turnP (x : Int) k = ((turnN k x : Nat) : Int) := by
  induction k with
  | zero => rfl
  | succ k ih =>
    have e : (x : Int) / 2 ^ k % 2 = ((x / 2 ^ k % 2 : Nat) : Int) := by simp
    rw [turnP, ih, turnN_succ, e, bit_mod]
    simp
theorem bit_of_mod (x : Int) {k d : Nat} (h : k < d) : x % 2 ^ d / 2 ^ k % 2 = x / 2 ^ k % 2 := by
  obtain ⟨e, rfl⟩ : ∃ e, d = k + 1 + e := ⟨d - (k + 1), by omega⟩
  have hp : (2 : Int) ^ (k + 1 + e) = 2 ^ k * (2 * 2 ^ e) := by rw [Int.pow_add, Int.pow_succ]; grind
  have hk : (0 : Int) < 2 ^ k := by rw [pow_cast]; exact_mod_cast Nat.two_pow_pos k
  have hx : x = x % 2 ^ (k + 1 + e) + 2 ^ k * (2 * 2 ^ e * (x / 2 ^ (k + 1 + e))) := by
    have := Int.emod_add_mul_ediv x (2 ^ (k + 1 + e))
    grind
  have h2 : x / 2 ^ k = x % 2 ^ (k + 1 + e) / 2 ^ k + 2 * 2 ^ e * (x / 2 ^ (k + 1 + e)) := by
    have := Int.add_mul_ediv_left (x % 2 ^ (k + 1 + e)) (2 * 2 ^ e * (x / 2 ^ (k + 1 + e))) (b := 2 ^ k) (by omega)
    rw [← this, ← hx]
  rw [h2, Int.mul_assoc 2]
  omega
theorem turnP_mod (x : Int) (d : Nat) : ∀ k, k ≤ d → turnP (x % 2 ^ d) k = turnP x k := by
  intro k
  induction k with
  | zero => intro _; rfl
  | succ k ih =>
    intro h
    rw [turnP, turnP, ih (by omega), bit_of_mod x (by omega)]
/-- twice turned -/
theorem turnP_turn (x : Int) (d : Nat) : turnP (turnP x d) d = x % 2 ^ d := by
  have l0 : 0 ≤ x % 2 ^ d := Int.emod_nonneg _ (by rw [pow_cast]; have := Nat.two_pow_pos d; omega)
  have l1 : x % 2 ^ d < 2 ^ d := Int.emod_lt_of_pos _ (by rw [pow_cast]; have := Nat.two_pow_pos d; omega)
  rw [← turnP_mod x d d (Nat.le_refl _)]
  generalize x % 2 ^ d = y at l0 l1
  obtain ⟨n, rfl⟩ := Int.eq_ofNat_of_zero_le l0
  rw [turnP_nat, turnP_nat, turn_turn]
  rw [pow_cast] at l1
  rw [Nat.mod_eq_of_lt (by omega)]
theorem low_low (x : Int) {d w : Nat} (h : d ≤ w) : x % 2 ^ w % 2 ^ d = x % 2 ^ d := by
  rw [pow_cast, pow_cast]
  exact Int.emod_emod_of_dvd x (Int.natCast_dvd_natCast.mpr (Nat.pow_dvd_pow 2 h))
end Go.Proofs.YtidpihpddkfhgaaDoor.Bit
