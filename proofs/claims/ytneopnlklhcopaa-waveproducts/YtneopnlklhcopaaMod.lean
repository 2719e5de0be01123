/- Remainders by any number above 0; nothing of the program. -/
import Derived.Test.YtneopnlklhcopaaMore
namespace Go.Proofs.Ytneopnlklhcopaa.Ring

theorem tmod_two (x a : Int) (a0 : 0 < a) : x.tmod a = x % a ∨ (x.tmod a = x % a - a) := by
  have h := Int.tmod_eq_emod (a := x) (b := a)
  have n : (a.natAbs : Int) = a := by omega
  split at h
  · left; omega
  · right; omega
theorem tmod_nn (x a : Int) (a0 : 0 < a) (h : 0 ≤ x.tmod a) : x.tmod a = x % a := by
  have := tmod_two x a a0
  have := Int.emod_lt_of_pos x a0
  omega
theorem tmod_ng (x a : Int) (a0 : 0 < a) (h : x.tmod a < 0) : x.tmod a + a = x % a := by
  have := tmod_two x a a0
  have := Int.emod_nonneg x (by omega : a ≠ 0)
  omega
theorem tmod_bd (x a : Int) (a0 : 0 < a) : -a < x.tmod a ∧ x.tmod a < a := by
  have h : (-x).tmod a = -(x.tmod a) := Int.neg_tmod ..
  by_cases x0 : 0 ≤ x
  · have := Int.tmod_eq_emod_of_nonneg (b := a) x0
    have := Int.emod_nonneg x (by omega : a ≠ 0)
    have := Int.emod_lt_of_pos x a0
    omega
  · have := Int.tmod_eq_emod_of_nonneg (a := -x) (b := a) (by omega)
    have := Int.emod_nonneg (-x) (by omega : a ≠ 0)
    have := Int.emod_lt_of_pos (-x) a0
    omega
theorem tmod_ref_a (x a : Int) (a0 : 0 < a) : (x.tmod a + a) % a = x % a := by
  rcases tmod_two x a a0 with h | h
  · rw [h, Int.add_emod_right, Int.emod_emod]
  · rw [h, Int.sub_add_cancel, Int.emod_emod]
end Go.Proofs.Ytneopnlklhcopaa.Ring
