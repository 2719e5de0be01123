/- Polys as lists: what is told of any lists. -/
import Derived.Test.YtneopnlklhcopaaPolyE
namespace Go.Proofs.Ytneopnlklhcopaa.Ring

open Classical in
noncomputable def two (F : V → V → V) (l m : List Int) : List Int := if IsPoly l ∧ IsPoly m then toL (F (vec l) (vec m)) else []
open Classical in
noncomputable def one (F : V → V) (l : List Int) : List Int := if IsPoly l then toL (F (vec l)) else []
theorem two_yes {F : V → V → V} {l m : List Int} (h : IsPoly l) (k : IsPoly m) : two F l m = toL (F (vec l) (vec m)) := if_pos ⟨h, k⟩
theorem two_no {F : V → V → V} {l m : List Int} (h : ¬ (IsPoly l ∧ IsPoly m)) : two F l m = [] := if_neg h
theorem one_yes {F : V → V} {l : List Int} (h : IsPoly l) : one F l = toL (F (vec l)) := if_pos h
theorem one_no {F : V → V} {l : List Int} (h : ¬ IsPoly l) : one F l = [] := if_neg h
theorem two_len (F : V → V → V) (l m : List Int) : (two F l m).length ≤ 256 := by
  by_cases h : IsPoly l ∧ IsPoly m
  · rw [two_yes h.1 h.2, toL_length]; exact Nat.le_refl _
  · rw [two_no h]; decide
theorem one_len (F : V → V) (l : List Int) : (one F l).length ≤ 256 := by
  by_cases h : IsPoly l
  · rw [one_yes h, toL_length]; exact Nat.le_refl _
  · rw [one_no h]; decide
open Classical in
noncomputable def mayB (l : List Int) : Bool := decide (IsPoly l)
theorem mayB_yes {l : List Int} (h : IsPoly l) : mayB l = true := by unfold mayB; exact (@decide_eq_true_iff _ (_)).mpr h
theorem mayB_no {l : List Int} (h : ¬ IsPoly l) : mayB l = false := by unfold mayB; exact (@decide_eq_false_iff_not _ (_)).mpr h
end Go.Proofs.Ytneopnlklhcopaa.Ring
