/- Numbers of some bits, packed and unpacked, as the chapter reckons with them. Nothing of the program. -/
namespace Go.Proofs.YtidpihpddkfhgaaDoor.Bit

/-- the number whose n lowest bits are f's -/
def num (f : Nat → Bool) : Nat → Nat
  | 0 => 0
  | k + 1 => num f k ||| ((f k).toNat <<< k)
theorem toNat_bit (b : Bool) (i : Nat) : b.toNat.testBit i = (decide (i = 0) && b) := by
  cases b
  · simp
  · cases i with
    | zero => simp
    | succ i => simp [Nat.testBit_succ]
theorem num_bit (f : Nat → Bool) (n i : Nat) : (num f n).testBit i = (decide (i < n) && f i) := by
  induction n with
  | zero => simp [num]
  | succ k ih =>
    rw [num, Nat.testBit_or, ih, Nat.testBit_shiftLeft, toNat_bit]
    by_cases h : i < k
    · have h1 : ¬ k ≤ i := by omega
      have h2 : i < k + 1 := by omega
      simp [h, h1, h2]
    · by_cases h2 : i = k
      · subst h2; simp
      · have h3 : ¬ i < k + 1 := by omega
        have h4 : k ≤ i := by omega
        have h5 : ¬ i - k = 0 := by omega
        simp [h, h3, h4, h5]
theorem num_lt (f : Nat → Bool) (n : Nat) : num f n < 2 ^ n := by
  apply Nat.lt_pow_two_of_testBit
  intro i hi
  rw [num_bit]
  simp; omega
theorem num_same {f g : Nat → Bool} {n : Nat} (h : ∀ i, i < n → f i = g i) : num f n = num g n := by
  apply Nat.eq_of_testBit_eq
  intro i
  rw [num_bit, num_bit]
  by_cases hi : i < n
  · simp [hi, h i hi]
  · simp [hi]
theorem num_of {x n : Nat} (h : x < 2 ^ n) : num (fun i => x.testBit i) n = x := by
  apply Nat.eq_of_testBit_eq
  intro i
  rw [num_bit]
  by_cases hi : i < n
  · simp [hi]
  · simp only [hi, decide_false, Bool.false_and]
    symm
    exact Nat.testBit_lt_two_pow (Nat.lt_of_lt_of_le h (Nat.pow_le_pow_right (by omega) (by omega)))

/-- the bits of numbers, one behind the other -/
def strm (d : Nat) (xs : List Nat) (p : Nat) : Bool := (xs.getD (p / d) 0).testBit (p % d)
def packN (d : Nat) (xs : List Nat) : List Nat := (List.range ((d * xs.length + 7) / 8)).map fun j => num (fun t => strm d xs (8 * j + t)) 8
def unpackN (d : Nat) (b : List Nat) : List Nat := (List.range (8 * b.length / d)).map fun i => num (fun k => strm 8 b (i * d + k)) d

theorem packN_len (d : Nat) (xs : List Nat) : (packN d xs).length = (d * xs.length + 7) / 8 := by simp [packN]
theorem unpackN_len (d : Nat) (b : List Nat) : (unpackN d b).length = 8 * b.length / d := by simp [unpackN]
theorem packN_at (d : Nat) (xs : List Nat) {j : Nat} (h : j < (d * xs.length + 7) / 8) : (packN d xs).getD j 0 = num (fun t => strm d xs (8 * j + t)) 8 := by
  simp [packN, List.getD_eq_getElem?_getD, List.getElem?_range h]
theorem unpackN_at (d : Nat) (b : List Nat) {i : Nat} (h : i < 8 * b.length / d) : (unpackN d b).getD i 0 = num (fun k => strm 8 b (i * d + k)) d := by
  simp [unpackN, List.getD_eq_getElem?_getD, List.getElem?_range h]
theorem getD_out {l : List Nat} {i : Nat} (h : l.length ≤ i) : l.getD i 0 = 0 := by
  simp [List.getD_eq_getElem?_getD, List.getElem?_eq_none h]
theorem strm_out {d : Nat} {xs : List Nat} {p : Nat} (hd : 0 < d) (h : d * xs.length ≤ p) : strm d xs p = false := by
  unfold strm
  rw [getD_out ((Nat.le_div_iff_mul_le hd).mpr (by rw [Nat.mul_comm]; exact h))]
  simp
theorem packN_strm {d : Nat} (hd : 0 < d) (xs : List Nat) (p : Nat) : strm 8 (packN d xs) p = strm d xs p := by
  by_cases h : p / 8 < (d * xs.length + 7) / 8
  · show ((packN d xs).getD (p / 8) 0).testBit (p % 8) = _
    rw [packN_at d xs h, num_bit]
    have h1 : p % 8 < 8 := Nat.mod_lt _ (by omega)
    have h2 : 8 * (p / 8) + p % 8 = p := Nat.div_add_mod p 8
    simp [h1, h2]
  · rw [strm_out (d := d) hd (by omega)]
    unfold strm
    rw [getD_out (by rw [packN_len]; omega)]
    simp
theorem strm_at {d : Nat} (xs : List Nat) (i : Nat) {k : Nat} (hk : k < d) : strm d xs (i * d + k) = (xs.getD i 0).testBit k := by
  unfold strm
  have h1 : (i * d + k) / d = i := by rw [Nat.add_comm, Nat.add_mul_div_right _ _ (by omega), Nat.div_eq_of_lt hk]; omega
  have h2 : (i * d + k) % d = k := by rw [Nat.add_comm, Nat.add_mul_mod_self_right, Nat.mod_eq_of_lt hk]
  rw [h1, h2]

/-- packed numbers are unpacked as they were, with zeros behind -/
theorem unpack_pack_len {d : Nat} (hd : 0 < d) (xs : List Nat) : xs.length ≤ (unpackN d (packN d xs)).length := by
  rw [unpackN_len, packN_len, Nat.le_div_iff_mul_le hd, Nat.mul_comm]; omega
theorem unpack_pack {d : Nat} (hd : 0 < d) {xs : List Nat} (hx : ∀ i, i < xs.length → xs.getD i 0 < 2 ^ d) {i : Nat} (hi : i < (unpackN d (packN d xs)).length) : (unpackN d (packN d xs)).getD i 0 = xs.getD i 0 := by
  rw [unpackN_len] at hi
  rw [unpackN_at d _ hi]
  have e : num (fun k => strm 8 (packN d xs) (i * d + k)) d = num (fun k => (xs.getD i 0).testBit k) d :=
    num_same fun k hk => by rw [packN_strm hd, strm_at xs i hk]
  rw [e]
  apply num_of
  by_cases h : i < xs.length
  · exact hx i h
  · rw [getD_out (by omega)]; exact Nat.two_pow_pos d

theorem unpackN_strm {d : Nat} (hd : 0 < d) (b : List Nat) {p : Nat} (hp : p / d < 8 * b.length / d) : strm d (unpackN d b) p = strm 8 b p := by
  show ((unpackN d b).getD (p / d) 0).testBit (p % d) = _
  rw [unpackN_at d b hp, num_bit]
  have h1 : p % d < d := Nat.mod_lt _ hd
  have h2 : p / d * d + p % d = p := by rw [Nat.mul_comm]; exact Nat.div_add_mod p d
  simp [h1, h2]
theorem list_ext {a b : List Nat} (hl : a.length = b.length) (h : ∀ i, i < a.length → a.getD i 0 = b.getD i 0) : a = b := by
  apply List.ext_getElem hl
  intro i h1 h2
  have := h i h1
  simpa [List.getD_eq_getElem?_getD, List.getElem?_eq_getElem h1, List.getElem?_eq_getElem h2] using this
/-- bytes of whole numbers are packed as they were -/
theorem pack_unpack {d : Nat} (hd : 0 < d) {b : List Nat} (hb : ∀ i, i < b.length → b.getD i 0 < 256) (hm : b.length % d = 0) : packN d (unpackN d b) = b := by
  obtain ⟨q, hq⟩ : ∃ q, b.length = d * q := ⟨b.length / d, by have := Nat.div_add_mod b.length d; omega⟩
  have e8 : 8 * b.length / d = 8 * q := by
    rw [hq, show 8 * (d * q) = d * (8 * q) by rw [← Nat.mul_assoc, ← Nat.mul_assoc, Nat.mul_comm 8 d]]
    exact Nat.mul_div_cancel_left _ hd
  have e1 : d * (8 * b.length / d) = 8 * b.length := by
    rw [e8, hq, ← Nat.mul_assoc, ← Nat.mul_assoc, Nat.mul_comm 8 d]
  have hl : (packN d (unpackN d b)).length = b.length := by
    rw [packN_len, unpackN_len, e1]; omega
  apply list_ext hl
  intro i hi
  have hi2 : i < (d * (unpackN d b).length + 7) / 8 := by rw [← packN_len]; exact hi
  rw [packN_at d _ hi2]
  have e : num (fun t => strm d (unpackN d b) (8 * i + t)) 8 = num (fun t => (b.getD i 0).testBit t) 8 :=
    num_same fun t ht => by
      have hlt : (8 * i + t) / d < 8 * b.length / d := by
        rw [Nat.div_lt_iff_lt_mul hd, Nat.mul_comm _ d, e1]; omega
      rw [unpackN_strm hd b hlt, show 8 * i + t = i * 8 + t by omega, strm_at b i ht]
  rw [e]
  exact num_of (hb i (by omega))

theorem getD_app (a b : List Nat) (i : Nat) : (a ++ b).getD i 0 = if i < a.length then a.getD i 0 else b.getD (i - a.length) 0 := by
  simp only [List.getD_eq_getElem?_getD]
  by_cases h : i < a.length
  · rw [if_pos h, List.getElem?_append_left h]
  · rw [if_neg h, List.getElem?_append_right (by omega)]
theorem strm_app {d : Nat} (hd : 0 < d) (xs ys : List Nat) (p : Nat) : strm d (xs ++ ys) p = if p < d * xs.length then strm d xs p else strm d ys (p - d * xs.length) := by
  unfold strm
  rw [getD_app]
  by_cases h : p < d * xs.length
  · rw [if_pos h, if_pos ((Nat.div_lt_iff_lt_mul hd).mpr (by rw [Nat.mul_comm]; exact h))]
  · have hle : d * xs.length ≤ p := by omega
    rw [if_neg h, if_neg (by rw [Nat.div_lt_iff_lt_mul hd, Nat.mul_comm]; exact h)]
    obtain ⟨r, rfl⟩ : ∃ r, p = r + d * xs.length := ⟨p - d * xs.length, by omega⟩
    rw [Nat.add_sub_cancel, Nat.add_mul_div_left _ _ hd, Nat.add_mul_mod_self_left, Nat.add_sub_cancel]
/-- numbers whose bits fill bytes are packed as both parts are -/
theorem pack_app {d : Nat} (hd : 0 < d) {xs : List Nat} (ys : List Nat) {q : Nat} (hq : d * xs.length = 8 * q) : packN d (xs ++ ys) = packN d xs ++ packN d ys := by
  have l1 : (packN d xs).length = q := by rw [packN_len]; omega
  have hl : (packN d (xs ++ ys)).length = (packN d xs ++ packN d ys).length := by
    rw [List.length_append, packN_len, packN_len, packN_len, List.length_append, Nat.mul_add]; omega
  apply list_ext hl
  intro i hi
  have hi2 : i < (d * (xs ++ ys).length + 7) / 8 := by rw [← packN_len]; exact hi
  rw [packN_at d _ hi2, getD_app, l1]
  have hi3 : i < q + (packN d ys).length := by rw [hl, List.length_append, l1] at hi; exact hi
  by_cases h : i < q
  · rw [if_pos h, packN_at d xs (by rw [← packN_len, l1]; exact h)]
    exact num_same fun t ht => by rw [strm_app hd, if_pos (by omega)]
  · rw [if_neg h, packN_at d ys (by rw [← packN_len]; omega)]
    exact num_same fun t ht => by
      rw [strm_app hd, if_neg (by omega)]
      congr 1; omega
/-- numbers are packed as their bits are -/
def ones (d : Nat) (xs : List Nat) : List Nat := (List.range (d * xs.length)).map fun p => (strm d xs p).toNat
theorem ones_len (d : Nat) (xs : List Nat) : (ones d xs).length = d * xs.length := by simp [ones]
theorem pack_ones {d : Nat} (hd : 0 < d) (xs : List Nat) : packN 1 (ones d xs) = packN d xs := by
  have hs : ∀ p, strm 1 (ones d xs) p = strm d xs p := by
    intro p
    show ((ones d xs).getD (p / 1) 0).testBit (p % 1) = _
    rw [Nat.div_one, Nat.mod_one]
    by_cases h : p < d * xs.length
    · have e : (ones d xs).getD p 0 = (strm d xs p).toNat := by simp [ones, List.getD_eq_getElem?_getD, List.getElem?_range h]
      rw [e, toNat_bit]; simp
    · rw [getD_out (by rw [ones_len]; omega), strm_out hd (by omega)]; simp
  unfold packN
  rw [ones_len, Nat.one_mul]
  simp only [hs]

/-- the d lowest bits, turned round -/
def turnN (d x : Nat) : Nat := num (fun i => x.testBit (d - 1 - i)) d
theorem turnN_bit (d x i : Nat) : (turnN d x).testBit i = (decide (i < d) && x.testBit (d - 1 - i)) := num_bit _ _ _
theorem turnN_lt (d x : Nat) : turnN d x < 2 ^ d := num_lt _ _
theorem turn_turn (d x : Nat) : turnN d (turnN d x) = x % 2 ^ d := by
  apply Nat.eq_of_testBit_eq
  intro i
  rw [turnN_bit, turnN_bit, Nat.testBit_mod_two_pow]
  by_cases h : i < d
  · have h1 : d - 1 - i < d := by omega
    have h2 : d - 1 - (d - 1 - i) = i := by omega
    simp [h, h1, h2]
  · simp [h]
theorem turnN_mod (d x : Nat) : turnN d (x % 2 ^ d) = turnN d x := by
  apply Nat.eq_of_testBit_eq
  intro i
  rw [turnN_bit, turnN_bit, Nat.testBit_mod_two_pow]
  by_cases h : i < d
  · have h1 : d - 1 - i < d := by omega
    simp [h1]
  · simp [h]
theorem turnN_succ (k x : Nat) : turnN (k + 1) x = 2 * turnN k x + (x.testBit k).toNat := by
  have hb : (x.testBit k).toNat < 2 := by cases x.testBit k <;> simp
  apply Nat.eq_of_testBit_eq
  intro i
  rw [turnN_bit]
  cases i with
  | zero =>
    rw [Nat.testBit_zero]
    cases h : x.testBit k <;> simp [h] <;> omega
  | succ i =>
    rw [Nat.testBit_succ, show (2 * turnN k x + (x.testBit k).toNat) / 2 = turnN k x by omega, turnN_bit]
    have e : k + 1 - 1 - (i + 1) = k - 1 - i := by omega
    rw [e]
    by_cases h : i < k
    · have h1 : i + 1 < k + 1 := by omega
      simp [h]
    · have h1 : ¬ i + 1 < k + 1 := by omega
      simp [h]
theorem turn_inj {d x y : Nat} (hx : x < 2 ^ d) (hy : y < 2 ^ d) (h : turnN d x = turnN d y) : x = y := by
  have := congrArg (turnN d) h
  rwa [turn_turn, turn_turn, Nat.mod_eq_of_lt hx, Nat.mod_eq_of_lt hy] at this

/-- a whole number's bits -/
theorem bit_mod (x : Nat) (i : Nat) : x / 2 ^ i % 2 = (x.testBit i).toNat := by
  rw [Nat.testBit_eq_decide_div_mod_eq]
  have : x / 2 ^ i % 2 < 2 := Nat.mod_lt _ (by omega)
  by_cases h : x / 2 ^ i % 2 = 1
  · simp [h]
  · have : x / 2 ^ i % 2 = 0 := by omega
    simp [this]
end Go.Proofs.YtidpihpddkfhgaaDoor.Bit
