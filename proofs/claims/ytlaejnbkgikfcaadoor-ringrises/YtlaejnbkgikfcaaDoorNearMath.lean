/- Squashed and stretched: how near it is, and how it rises, for each width from 1 to 11 and each number. -/
import Derived.Test.YtlaejnbkgikfcaaDoorNearAll
namespace Go.Proofs.YtlaejnbkgikfcaaDoor.Ring

theorem each {p : Nat → Nat → Bool} {n : Nat → Nat} (h : (List.range 11).all (fun e => (List.range (n (e + 1))).all fun x => p (e + 1) x) = true)
    (d x : Nat) (d0 : 1 ≤ d) (d1 : d ≤ 11) (hx : x < n d) : p d x = true := by
  have := List.all_eq_true.mp (List.all_eq_true.mp h (d - 1) (List.mem_range.mpr (by omega))) x (List.mem_range.mpr (by rw [show d - 1 + 1 = d by omega]; exact hx))
  rwa [show d - 1 + 1 = d by omega] at this

theorem nat_of {a : Int} (h : 0 ≤ a) : ∃ n : Nat, a = n := ⟨a.toNat, by omega⟩
theorem sq_in (d x : Int) (d0 : 1 ≤ d) (d1 : d ≤ 11) (x0 : 0 ≤ x) (x1 : x ≤ 3328) : 0 ≤ rSquash d x ∧ rSquash d x < 2 ^ d.toNat := by
  obtain ⟨d, rfl⟩ := nat_of (a := d) (by omega)
  obtain ⟨x, rfl⟩ := nat_of x0
  have := each (n := fun _ => 3329) near_all d x (by omega) (by omega) (by omega)
  simp only [nearB, Bool.and_eq_true, decide_eq_true_eq] at this
  exact this.1
theorem near_in (d x : Int) (d0 : 1 ≤ d) (d1 : d ≤ 11) (x0 : 0 ≤ x) (x1 : x ≤ 3328) :
    rSub (rStretch d (rSquash d x)) x ≤ stepOf (2 ^ d.toNat) + 1 ∨ 3329 - rSub (rStretch d (rSquash d x)) x ≤ stepOf (2 ^ d.toNat) + 1 := by
  obtain ⟨d, rfl⟩ := nat_of (a := d) (by omega)
  obtain ⟨x, rfl⟩ := nat_of x0
  have := each (n := fun _ => 3329) near_all d x (by omega) (by omega) (by omega)
  simp only [nearB, Bool.and_eq_true, Bool.or_eq_true, decide_eq_true_eq] at this
  exact this.2
theorem back_in (d y : Int) (d0 : 1 ≤ d) (d1 : d ≤ 11) (y0 : 0 ≤ y) (y1 : y < 2 ^ d.toNat) : rSquash d (rStretch d y) = y := by
  obtain ⟨d, rfl⟩ := nat_of (a := d) (by omega)
  obtain ⟨y, rfl⟩ := nat_of y0
  have hy : y < 2 ^ d := by rw [Int.toNat_natCast] at y1; exact_mod_cast y1
  have := each (n := fun d => 2 ^ d) back_all d y (by omega) (by omega) hy
  exact beq_iff_eq.mp this
theorem steps_in (d y : Int) (d0 : 1 ≤ d) (d1 : d ≤ 11) (y0 : 0 ≤ y) (y1 : y < 2 ^ d.toNat - 1) :
    3329 / 2 ^ d.toNat ≤ rStretch d (y + 1) - rStretch d y ∧ rStretch d (y + 1) - rStretch d y ≤ 3329 / 2 ^ d.toNat + 1 := by
  obtain ⟨d, rfl⟩ := nat_of (a := d) (by omega)
  obtain ⟨y, rfl⟩ := nat_of y0
  have hy : y < 2 ^ d - 1 := by
    rw [Int.toNat_natCast] at y1
    have : (y : Int) + 1 < ((2 ^ d : Nat) : Int) := by rw [Int.natCast_pow]; exact Int.add_lt_of_lt_sub_right y1
    omega
  have := each (n := fun d => 2 ^ d - 1) steps_all d y (by omega) (by omega) hy
  simp only [stepsB, Bool.and_eq_true, decide_eq_true_eq] at this
  exact this
theorem rises_in (d x : Int) (d0 : 1 ≤ d) (d1 : d ≤ 11) (x0 : 0 ≤ x) (x1 : x ≤ 3327) :
    (rSquash d (x + 1) = rSquash d x ∨ rSquash d (x + 1) = rSquash d x + 1) ∨ (rSquash d (x + 1) = 0 ∧ rSquash d x = 2 ^ d.toNat - 1) := by
  obtain ⟨d, rfl⟩ := nat_of (a := d) (by omega)
  obtain ⟨x, rfl⟩ := nat_of x0
  have := each (n := fun _ => 3328) rises_all d x (by omega) (by omega) (by omega)
  simp only [risesB, Bool.or_eq_true, Bool.and_eq_true, beq_iff_eq] at this
  exact this
theorem half_in (d x : Int) (d0 : 1 ≤ d) (d1 : d ≤ 11) (x0 : 0 ≤ x) (x1 : x ≤ 3327) :
    x < halfOf (2 ^ d.toNat) ↔ (0 < rSquash d x ∨ x * (2 * 2 ^ d.toNat) < 3329) := by
  obtain ⟨d, rfl⟩ := nat_of (a := d) (by omega)
  obtain ⟨x, rfl⟩ := nat_of x0
  have := each (n := fun _ => 3328) half_all d x (by omega) (by omega) (by omega)
  simp only [halfB, beq_iff_eq] at this
  rw [← Bool.decide_or] at this
  exact decide_eq_decide.mp this
theorem two_pow_bd (d : Int) (d0 : 1 ≤ d) (d1 : d ≤ 11) : 2 ≤ (2 : Int) ^ d.toNat ∧ (2 : Int) ^ d.toNat ≤ 2048 := by
  have hd : d = 1 ∨ d = 2 ∨ d = 3 ∨ d = 4 ∨ d = 5 ∨ d = 6 ∨ d = 7 ∨ d = 8 ∨ d = 9 ∨ d = 10 ∨ d = 11 := by omega
  rcases hd with rfl | rfl | rfl | rfl | rfl | rfl | rfl | rfl | rfl | rfl | rfl <;> decide
theorem stretch_zero (d : Int) (d0 : 1 ≤ d) (d1 : d ≤ 11) : rStretch d 0 = 0 := by
  have hd : d = 1 ∨ d = 2 ∨ d = 3 ∨ d = 4 ∨ d = 5 ∨ d = 6 ∨ d = 7 ∨ d = 8 ∨ d = 9 ∨ d = 10 ∨ d = 11 := by omega
  rcases hd with rfl | rfl | rfl | rfl | rfl | rfl | rfl | rfl | rfl | rfl | rfl <;> decide
theorem stepOf_bd (P : Int) (h0 : 2 ≤ P) (h1 : P ≤ 2048) : 0 ≤ stepOf P ∧ stepOf P ≤ 8000 := by
  unfold stepOf
  exact ⟨Int.ediv_nonneg (by omega) (by omega), Int.le_trans (Int.ediv_le_self _ (by omega)) (by omega)⟩
theorem div_bd (P : Int) : 0 ≤ P → 0 ≤ 3329 / P ∧ 3329 / P ≤ 3329 := by
  intro h
  exact ⟨Int.ediv_nonneg (by omega) h, Int.ediv_le_self _ (by omega)⟩
end Go.Proofs.YtlaejnbkgikfcaaDoor.Ring
