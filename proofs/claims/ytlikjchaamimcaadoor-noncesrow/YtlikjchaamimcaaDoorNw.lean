/- What the three calls answer, as the chapter says, of any numbers. -/
import Derived.Test.YtlikjchaamimcaaDoorMath
import Derived.Test.YtlikjchaamimcaaDoorWords
namespace Go.Proofs.YtlikjchaamimcaaDoor
open Go.RowKit Slices

def I64 (n : Int) : Prop := -9223372036854775808 ≤ n ∧ n ≤ 9223372036854775807
noncomputable def mayC (h : Int) (u : Nat) : Bool := @decide (MayN h u) (Classical.propDecidable _)
noncomputable def freshC (h : Int) (u : Nat) (n : Int) : Bool := @decide (FreshN h u n) (Classical.propDecidable _)
noncomputable def useH (h : Int) (u : Nat) (n : Int) : Int := if freshC h u n then max h n else 0
noncomputable def useW (h : Int) (u : Nat) (n : Int) : Nat := if freshC h u n then useU h u n else 0
noncomputable def useE (h : Int) (u : Nat) (n : Int) : Int := if freshC h u n then 0 else if mayC h u then 8 else 2
theorem mayC_yes {h : Int} {u : Nat} (m : MayN h u) : mayC h u = true := @decide_eq_true _ (Classical.propDecidable _) m
theorem mayC_no {h : Int} {u : Nat} (m : ¬ MayN h u) : mayC h u = false := @decide_eq_false _ (Classical.propDecidable _) m
theorem freshC_yes {h : Int} {u : Nat} {n : Int} (m : FreshN h u n) : freshC h u n = true := @decide_eq_true _ (Classical.propDecidable _) m
theorem freshC_no {h : Int} {u : Nat} {n : Int} (m : ¬ FreshN h u n) : freshC h u n = false := @decide_eq_false _ (Classical.propDecidable _) m
theorem useH_yes {h : Int} {u : Nat} {n : Int} (m : FreshN h u n) : useH h u n = max h n := by unfold useH; rw [freshC_yes m]; rfl
theorem useW_yes {h : Int} {u : Nat} {n : Int} (m : FreshN h u n) : useW h u n = useU h u n := by unfold useW; rw [freshC_yes m]; rfl
theorem useE_yes {h : Int} {u : Nat} {n : Int} (m : FreshN h u n) : useE h u n = 0 := by unfold useE; rw [freshC_yes m]; rfl
theorem useH_no {h : Int} {u : Nat} {n : Int} (m : ¬ FreshN h u n) : useH h u n = 0 := by unfold useH; rw [freshC_no m]; rfl
theorem useW_no {h : Int} {u : Nat} {n : Int} (m : ¬ FreshN h u n) : useW h u n = 0 := by unfold useW; rw [freshC_no m]; rfl
theorem useE_no {h : Int} {u : Nat} {n : Int} (m : ¬ FreshN h u n) : useE h u n ≠ 0 := by
  unfold useE
  rw [freshC_no m]
  cases mayC h u <;> simp
theorem useE_8 {h : Int} {u : Nat} {n : Int} (m : ¬ FreshN h u n) (y : MayN h u) : useE h u n = 8 := by unfold useE; rw [freshC_no m, mayC_yes y]; rfl

end Go.Proofs.YtlikjchaamimcaaDoor
