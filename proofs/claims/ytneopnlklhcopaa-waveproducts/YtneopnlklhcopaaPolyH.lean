/- Polys: the powers of the unknown, carried over; turns. -/
import Derived.Test.YtneopnlklhcopaaPolyG
namespace Go.Proofs.Ytneopnlklhcopaa.Ring

def uV (n : Nat) : V := fun p => if p = n then 1 else 0
def zp (i : Nat) : Nat → F
  | 0 => 1
  | k + 1 => zeta i * zp i k
def uU (n : Nat) : V := fun p => zp p n

def cV (L : Nat) : V := fun p => if p % L = 0 then 1 else 0
theorem over_cV {L : Nat} (hL : Lev L) : Same (overL L (cV (2 * L))) (cV L) := fun p hp => by
  unfold overL
  by_cases c : p % (2 * L) < L
  · have e1 : ¬ (p + L) % (2 * L) = 0 := by rcases hL with rfl | rfl | rfl | rfl | rfl | rfl | rfl | rfl <;> omega
    have e2 : p % (2 * L) = 0 ↔ p % L = 0 := by rcases hL with rfl | rfl | rfl | rfl | rfl | rfl | rfl | rfl <;> omega
    rw [if_pos c]
    unfold cV
    rw [if_neg e1]
    by_cases d : p % L = 0
    · rw [if_pos d, if_pos (e2.mpr d)]; grind
    · rw [if_neg d, if_neg (fun h => d (e2.mp h))]; grind
  · have e1 : ¬ p % (2 * L) = 0 := by rcases hL with rfl | rfl | rfl | rfl | rfl | rfl | rfl | rfl <;> omega
    have e2 : (p - L) % (2 * L) = 0 ↔ p % L = 0 := by rcases hL with rfl | rfl | rfl | rfl | rfl | rfl | rfl | rfl <;> omega
    rw [if_neg c]
    unfold cV
    rw [if_neg e1]
    by_cases d : p % L = 0
    · rw [if_pos d, if_pos (e2.mpr d)]; grind
    · rw [if_neg d, if_neg (fun h => d (e2.mp h))]; grind
theorem over_one : Same (vOver (uV 0)) (uU 0) := by
  have l : ∀ L, L = 1 ∨ L = 2 ∨ L = 4 ∨ L = 8 ∨ L = 16 ∨ L = 32 ∨ L = 64 ∨ L = 128 → Lev L := fun _ h => h
  have h0 : Same (uV 0) (cV 256) := fun p hp => by
    unfold uV cV
    by_cases c : p = 0
    · rw [if_pos c, if_pos (by omega)]
    · rw [if_neg c, if_neg (by omega)]
  have s1 := (overL_same (L := 128) (l _ (by omega)) h0).trans (over_cV (l 128 (by omega)))
  have s2 := (overL_same (L := 64) (l _ (by omega)) s1).trans (over_cV (l 64 (by omega)))
  have s3 := (overL_same (L := 32) (l _ (by omega)) s2).trans (over_cV (l 32 (by omega)))
  have s4 := (overL_same (L := 16) (l _ (by omega)) s3).trans (over_cV (l 16 (by omega)))
  have s5 := (overL_same (L := 8) (l _ (by omega)) s4).trans (over_cV (l 8 (by omega)))
  have s6 := (overL_same (L := 4) (l _ (by omega)) s5).trans (over_cV (l 4 (by omega)))
  have s7 := (overL_same (L := 2) (l _ (by omega)) s6).trans (over_cV (l 2 (by omega)))
  have s8 := (overL_same (L := 1) (l _ (by omega)) s7).trans (over_cV (l 1 (by omega)))
  exact s8.trans fun p _ => by unfold cV uU zp; rw [if_pos (by omega)]
theorem vX_same {f g : V} (h : Same f g) : Same (vX f) (vX g) := fun p hp => by
  unfold vX
  by_cases c : p = 0
  · rw [if_pos c, if_pos c, h 255 (by omega)]
  · rw [if_neg c, if_neg c, h (p - 1) (by omega)]
theorem vX2_same {f g : V} (h : Same f g) : Same (vX2 f) (vX2 g) := fun p hp => by unfold vX2; rw [h p hp]
theorem vX_unit (n : Nat) (h : n < 255) : Same (vX (uV n)) (uV (n + 1)) := fun p hp => by
  unfold vX uV
  by_cases c : p = 0
  · rw [if_pos c, if_neg (by omega), if_neg (by omega)]; grind
  · rw [if_neg c]
    by_cases d : p = n + 1
    · rw [if_pos (by omega), if_pos d]
    · rw [if_neg (by omega), if_neg d]
theorem vX2_unit (n : Nat) : Same (vX2 (uU n)) (uU (n + 1)) := fun _ _ => rfl
theorem over_unit_all (n : Nat) (h : n < 256) : Same (vOver (uV n)) (uU n) := by
  induction n with
  | zero => exact over_one
  | succ n ih =>
    have ih := ih (by omega)
    refine (vOver_same (vX_unit n (by omega)).symm).trans ?_
    exact ((over_X _).trans (vX2_same ih)).trans (vX2_unit n)
def unitL (N i : Nat) : List Int := (List.replicate N (0 : Int)).set i 1
theorem unit_poly (i : Nat) : IsPoly (unitL 256 i) := by
  refine ⟨by rw [unitL, List.length_set, List.length_replicate], fun k _ => ?_⟩
  unfold unitL
  rw [List.getD_eq_getElem?_getD, List.getElem?_set]
  split
  · split
    · unfold okN; simp
    · unfold okN; simp
  · rw [List.getElem?_replicate]; split <;> (unfold okN; simp)
theorem phi_one : phi 1 = 1 := by decide
theorem phi_zero : phi 0 = 0 := by decide
theorem vec_unit (n : Nat) (h : n < 256) : Same (vec (unitL 256 n)) (uV n) := fun p hp => by
  unfold unitL
  rw [vec_set (by rw [List.length_replicate]; exact h)]
  unfold uV
  by_cases c : p = n
  · rw [if_pos c, if_pos c, phi_one]
  · rw [if_neg c, if_neg c]
    unfold vec
    rw [List.getD_eq_getElem?_getD, List.getElem?_replicate, if_pos hp]
    exact phi_zero
theorem turn_nonneg (i : Nat) : 0 ≤ 2 * turn i + 1 := by have := (turn_bd i).1; omega
theorem zp_pow (i k : Nat) : phi (rPow 1753 ((2 * turn i + 1) * k)) = zp i k := by
  induction k with
  | zero =>
    rw [Int.natCast_zero, Int.mul_zero, show rPow 1753 0 = 1 by decide, phi_one]; rfl
  | succ k ih =>
    have e : (2 * turn i + 1) * ((k + 1 : Nat) : Int) = (2 * turn i + 1) + (2 * turn i + 1) * (k : Int) := by
      rw [Int.natCast_add, Int.mul_add, Int.natCast_one, Int.mul_one, Int.add_comm]
    rw [e, rPow_add _ _ _ (turn_nonneg i) (Int.mul_nonneg (turn_nonneg i) (by omega)), phi_rMul, ih]; rfl
theorem over_unit_at (n i : Nat) (hn : n < 256) (hi : i < 256) :
    (one vOver (unitL 256 n)).getD i 0 = rPow 1753 ((2 * turn i + 1) * (n : Int)) := by
  have h := ((vec_one (F := vOver) (unit_poly n)).trans (vOver_same (vec_unit n hn))).trans (over_unit_all n hn)
  have hp := one_poly (F := vOver) (unit_poly n)
  have o1 := hp.2 i hi
  have o2 := rPow_ok 1753 ((2 * turn i + 1) * (n : Int))
  refine phi_inj ?_ o1.1 o1.2 o2.1 o2.2
  have := h i hi
  unfold vec at this
  rw [this, zp_pow]
  rfl

/-- n times times the unknown -/
def vXn : Nat → V → V
  | 0, f => f
  | n + 1, f => vX (vXn n f)
def vX2n : Nat → V → V
  | 0, f => f
  | n + 1, f => vX2 (vX2n n f)
theorem over_Xn (n : Nat) (f : V) : Same (vOver (vXn n f)) (vX2n n (vOver f)) := by
  induction n with
  | zero => exact Same.refl _
  | succ n ih => exact (over_X _).trans (vX2_same ih)
theorem times_X2n (n : Nat) (f g : V) : Same (vTimes f (vX2n n g)) (vX2n n (vTimes f g)) := by
  induction n with
  | zero => exact Same.refl _
  | succ n ih => exact (vTimes_X2 _ _).trans (vX2_same ih)
theorem times_unit (f : V) : Same (vTimes f (uU 0)) f := fun p _ => by
  have e0 : uU 0 p = 1 := rfl
  unfold vTimes
  rw [e0]; grind
theorem vX2n_unit (n : Nat) : Same (vX2n n (uU 0)) (uU n) := by
  induction n with
  | zero => exact Same.refl _
  | succ n ih => exact (vX2_same ih).trans (vX2_unit n)
theorem vX2n_same (n : Nat) {f g : V} (h : Same f g) : Same (vX2n n f) (vX2n n g) := by
  induction n with
  | zero => exact h
  | succ n ih => exact vX2_same ih
/-- a poly carried over, times a power of the unknown carried over -/
theorem over_turned (n : Nat) (hn : n < 256) (f : V) : Same (vTimes (vOver f) (vOver (uV n))) (vOver (vXn n f)) := by
  refine (vTimes_same (Same.refl _) ((over_unit_all n hn).trans (vX2n_unit n).symm)).trans ?_
  refine (times_X2n n _ _).trans ?_
  refine (vX2n_same n (times_unit _)).trans ?_
  exact (over_Xn n f).symm
theorem times_one_list {l : List Int} (h : IsPoly l) : two vTimes l (one vOver (unitL 256 0)) = l := by
  refine list_eq (two_poly h (one_poly (unit_poly 0))) h ?_
  refine ((vec_two h (one_poly (unit_poly 0))).trans (vTimes_same (Same.refl _) ?_)).trans (times_unit _)
  exact ((vec_one (unit_poly 0)).trans (vOver_same (vec_unit 0 (by omega)))).trans over_one
end Go.Proofs.Ytneopnlklhcopaa.Ring
