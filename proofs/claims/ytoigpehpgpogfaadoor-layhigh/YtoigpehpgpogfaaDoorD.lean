/- What is held while numbers are packed, and unpacked. Nothing of the program. -/
import Derived.Test.YtoigpehpgpogfaaDoorNums
namespace Go.Proofs.YtoigpehpgpogfaaDoor.Bit
open Go

/-- a of the bits f, from the place p on -/
def held (f : Nat → Bool) (p a : Nat) : Nat := num (fun t => f (p + t)) a
theorem held_lt (f : Nat → Bool) (p a : Nat) : held f p a < 2 ^ a := num_lt _ _
theorem held_zero (f : Nat → Bool) (p : Nat) : held f p 0 = 0 := rfl
theorem held_put {f : Nat → Bool} {p a D x : Nat} (hx : ∀ t, t < D → f (p + a + t) = x.testBit t) (h : x < 2 ^ D) : held f p a ||| (x <<< a) = held f p (a + D) :=
  num_join _ a D (fun t ht => by show f (p + (a + t)) = _; rw [← Nat.add_assoc]; exact hx t ht) h
theorem held_mod (f : Nat → Bool) (p : Nat) {a k : Nat} (h : k ≤ a) : held f p a % 2 ^ k = held f p k := num_mod _ h
theorem held_div (f : Nat → Bool) (p : Nat) {a k : Nat} (h : k ≤ a) : held f p a / 2 ^ k = held f (p + k) (a - k) := by
  unfold held
  rw [num_div _ h]
  exact num_same fun t _ => by rw [Nat.add_assoc]
theorem held_more {f : Nat → Bool} {p a b : Nat} (hab : a ≤ b) (h : ∀ t, a ≤ t → f (p + t) = false) : held f p b = held f p a := by
  apply Nat.eq_of_testBit_eq
  intro i
  unfold held
  rw [num_bit, num_bit]
  by_cases h1 : i < a
  · have h2 : i < b := by omega
    simp [h1, h2]
  · simp [h1, h i (by omega)]
theorem byte_lt (f : Nat → Bool) (p : Nat) : held f p 8 < 256 := held_lt f p 8

/-- one more byte, one more number -/
theorem pack_more {D : Nat} {X : List Nat} {m : Nat} (h : m < (D * X.length + 7) / 8) : int ((packN D X).take (m + 1)) = int ((packN D X).take m) ++ [((held (strm D X) (8 * m) 8 : Nat) : Int)] := by
  have hl : m < (packN D X).length := by rw [packN_len]; exact h
  rw [List.take_succ_eq_append_getElem hl, int_app]
  have := packN_at D X h
  rw [List.getD_eq_getElem?_getD, List.getElem?_eq_getElem hl] at this
  show _ ++ int [(packN D X)[m]] = _
  simp only [Option.getD_some] at this
  rw [this]; rfl
theorem unpack_more {D : Nat} {b : List Nat} {m : Nat} (h : m < 8 * b.length / D) : int ((unpackN D b).take (m + 1)) = int ((unpackN D b).take m) ++ [((held (strm 8 b) (m * D) D : Nat) : Int)] := by
  have hl : m < (unpackN D b).length := by rw [unpackN_len]; exact h
  rw [List.take_succ_eq_append_getElem hl, int_app]
  have := unpackN_at D b h
  rw [List.getD_eq_getElem?_getD, List.getElem?_eq_getElem hl] at this
  show _ ++ int [(unpackN D b)[m]] = _
  simp only [Option.getD_some] at this
  rw [this]; rfl
theorem pack_all {D : Nat} {X : List Nat} {m : Nat} (h : m = (D * X.length + 7) / 8) : int ((packN D X).take m) = int (packN D X) := by
  rw [List.take_of_length_le (by rw [packN_len]; omega)]
theorem unpack_all {D : Nat} {b : List Nat} {m : Nat} (h : m = 8 * b.length / D) : int ((unpackN D b).take m) = int (unpackN D b) := by
  rw [List.take_of_length_le (by rw [unpackN_len]; omega)]

/-- the packed bits: T went in, m bytes came out, a are held -/
structure Pk (D : Nat) (X : List Nat) (i T m a h : Nat) : Prop where
  t : T = D * i
  s : T = 8 * m + a
  v : h = held (strm D X) (8 * m) a
theorem Pk.put {D : Nat} {X : List Nat} {i T m a h x : Nat} (k : Pk D X i T m a h) (hx : X.getD i 0 = x) (hl : x < 2 ^ D) : Pk D X (i + 1) (T + D) m (a + D) (h ||| (x <<< a)) := by
  obtain ⟨t, s, v⟩ := k
  refine ⟨by rw [Nat.mul_succ, ← t], by omega, ?_⟩
  rw [v]
  exact held_put (fun j hj => by rw [← s, t, Nat.mul_comm, strm_at X i hj, hx]) hl
theorem Pk.take {D : Nat} {X : List Nat} {i T m a h : Nat} (k : Pk D X i T m a h) (ha : 8 ≤ a) : Pk D X i T (m + 1) (a - 8) (h / 256) ∧ h % 256 = held (strm D X) (8 * m) 8 := by
  obtain ⟨t, s, v⟩ := k
  refine ⟨⟨t, by omega, ?_⟩, ?_⟩
  · rw [v]; exact held_div _ _ ha
  · rw [v]; exact held_mod _ _ ha
theorem Pk.lt {D : Nat} {X : List Nat} {i T m a h : Nat} (k : Pk D X i T m a h) : h < 2 ^ a := by rw [k.v]; exact held_lt _ _ _
theorem Pk.lt' {D : Nat} {X : List Nat} {i T m a h b : Nat} (k : Pk D X i T m a h) (hb : a ≤ b) : h < 2 ^ b := Nat.lt_of_lt_of_le k.lt (Nat.pow_le_pow_right (by decide) hb)
theorem Pk.room {D : Nat} {X : List Nat} {i T m a h : Nat} (k : Pk D X i T m a h) (hi : i ≤ X.length) (ha : 8 ≤ a) : m < (D * X.length + 7) / 8 := by
  have : D * i ≤ D * X.length := Nat.mul_le_mul_left _ hi
  have := k.t
  have := k.s
  omega
theorem Pk.last {D : Nat} {X : List Nat} {T m a h : Nat} (k : Pk D X X.length T m a h) (hD : 0 < D) (ha : a < 8) (h0 : 0 < a) : m < (D * X.length + 7) / 8 ∧ m + 1 = (D * X.length + 7) / 8 ∧ h % 256 = held (strm D X) (8 * m) 8 := by
  obtain ⟨t, s, v⟩ := k
  refine ⟨by omega, by omega, ?_⟩
  have e : held (strm D X) (8 * m) 8 = h := by
    rw [v]
    exact held_more (by omega) fun j hj => strm_out hD (by omega)
  rw [← e]
  exact Nat.mod_eq_of_lt (byte_lt _ _)
theorem Pk.none {D : Nat} {X : List Nat} {T m a h : Nat} (k : Pk D X X.length T m a h) (ha : a = 0) : m = (D * X.length + 7) / 8 := by
  obtain ⟨t, s, _⟩ := k
  omega

/-- the unpacked bits: T went in, m numbers came out, a are held -/
structure Uk (D : Nat) (b : List Nat) (i T m a h : Nat) : Prop where
  t : T = 8 * i
  s : T = m * D + a
  v : h = held (strm 8 b) (m * D) a
theorem Uk.put {D : Nat} {b : List Nat} {i T m a h x : Nat} (k : Uk D b i T m a h) (hx : b.getD i 0 = x) (hl : x < 256) : Uk D b (i + 1) (T + 8) m (a + 8) (h ||| (x <<< a)) := by
  obtain ⟨t, s, v⟩ := k
  refine ⟨by omega, by omega, ?_⟩
  rw [v]
  exact held_put (fun j hj => by rw [← s, t, Nat.mul_comm, strm_at b i hj, hx]) hl
theorem Uk.take {D : Nat} {b : List Nat} {i T m a h : Nat} (k : Uk D b i T m a h) (ha : D ≤ a) : Uk D b i T (m + 1) (a - D) (h / 2 ^ D) ∧ h % 2 ^ D = held (strm 8 b) (m * D) D := by
  obtain ⟨t, s, v⟩ := k
  refine ⟨⟨t, by rw [Nat.succ_mul]; omega, ?_⟩, ?_⟩
  · rw [v, Nat.succ_mul]; exact held_div _ _ ha
  · rw [v]; exact held_mod _ _ ha
theorem Uk.lt' {D : Nat} {b : List Nat} {i T m a h c : Nat} (k : Uk D b i T m a h) (hb : a ≤ c) : h < 2 ^ c := by
  rw [k.v]; exact Nat.lt_of_lt_of_le (held_lt _ _ _) (Nat.pow_le_pow_right (by decide) hb)
theorem Uk.room {D : Nat} {b : List Nat} {i T m a h : Nat} (k : Uk D b i T m a h) (hi : i ≤ b.length) (hD : 0 < D) (ha : D ≤ a) : m < 8 * b.length / D := by
  have := k.t
  have := k.s
  refine Nat.lt_of_lt_of_le (Nat.lt_succ_self m) ((Nat.le_div_iff_mul_le hD).mpr ?_)
  rw [Nat.succ_mul]; omega
theorem Uk.last {D : Nat} {b : List Nat} {T m a h : Nat} (k : Uk D b b.length T m a h) (hD : 0 < D) (ha : a < D) : m = 8 * b.length / D := by
  have := k.t
  have hs := k.s
  rw [← this, hs, Nat.add_comm, Nat.add_mul_div_right _ _ hD, Nat.div_eq_of_lt ha]; omega
end Go.Proofs.YtoigpehpgpogfaaDoor.Bit
