/- Polys as lists: laws of the ring, and the way over. -/
import Derived.Test.YtneopnlklhcopaaPolyF
namespace Go.Proofs.Ytneopnlklhcopaa.Ring

theorem one_poly {F : V → V} {l : List Int} (h : IsPoly l) : IsPoly (one F l) := by rw [one_yes h]; exact toL_poly _
theorem two_poly {F : V → V → V} {l m : List Int} (h : IsPoly l) (k : IsPoly m) : IsPoly (two F l m) := by rw [two_yes h k]; exact toL_poly _
theorem vec_one {F : V → V} {l : List Int} (h : IsPoly l) : Same (vec (one F l)) (F (vec l)) := by rw [one_yes h]; exact vec_toL _
theorem vec_two {F : V → V → V} {l m : List Int} (h : IsPoly l) (k : IsPoly m) : Same (vec (two F l m)) (F (vec l) (vec m)) := by rw [two_yes h k]; exact vec_toL _
theorem list_eq {l m : List Int} (hl : IsPoly l) (hm : IsPoly m) (h : Same (vec l) (vec m)) : l = m := by rw [← toL_vec hl, ← toL_vec hm]; exact toL_same h
theorem vAdd_same {f f' g g' : V} (h : Same f f') (k : Same g g') : Same (vAdd f g) (vAdd f' g') := fun p hp => by unfold vAdd; rw [h p hp, k p hp]
theorem vSub_same {f f' g g' : V} (h : Same f f') (k : Same g g') : Same (vSub f g) (vSub f' g') := fun p hp => by unfold vSub; rw [h p hp, k p hp]
theorem vTimes_same {f f' g g' : V} (h : Same f f') (k : Same g g') : Same (vTimes f g) (vTimes f' g') := fun p hp => by unfold vTimes; rw [h p hp, k p hp]
theorem vTimes_comm (f g : V) : Same (vTimes f g) (vTimes g f) := fun p _ => by unfold vTimes; grind
theorem vTimes_assoc (f g h : V) : Same (vTimes f (vTimes g h)) (vTimes (vTimes f g) h) := fun p _ => by unfold vTimes; grind
theorem vTimes_add (f g h : V) : Same (vTimes f (vAdd g h)) (vAdd (vTimes f g) (vTimes f h)) := fun p _ => by unfold vTimes vAdd; grind
theorem vTimes_sub (f g h : V) : Same (vTimes f (vSub g h)) (vSub (vTimes f g) (vTimes f h)) := fun p _ => by unfold vTimes vSub; grind
theorem vTimes_mul (c : F) (f g : V) : Same (vTimes f (vMul c g)) (vMul c (vTimes f g)) := fun p _ => by unfold vTimes vMul; grind
/-- a product with what is times the unknown -/
theorem vTimes_X2 (f g : V) : Same (vTimes f (vX2 g)) (vX2 (vTimes f g)) := fun p _ => by unfold vTimes vX2; grind

theorem back_over_list {l : List Int} (h : IsPoly l) : one vBack (one vOver l) = l :=
  list_eq (one_poly (one_poly h)) h (((vec_one (one_poly h)).trans (vBack_same (vec_one h))).trans (back_over _))
theorem over_back_list {l : List Int} (h : IsPoly l) : one vOver (one vBack l) = l :=
  list_eq (one_poly (one_poly h)) h (((vec_one (one_poly h)).trans (vOver_same (vec_one h))).trans (over_back _))
theorem over_add_list {l m : List Int} (h : IsPoly l) (k : IsPoly m) : one vOver (two vAdd l m) = two vAdd (one vOver l) (one vOver m) := by
  refine list_eq (one_poly (two_poly h k)) (two_poly (one_poly h) (one_poly k)) ?_
  refine ((vec_one (two_poly h k)).trans (vOver_same (vec_two h k))).trans ?_
  rw [vOver_add]
  exact ((vec_two (one_poly h) (one_poly k)).trans (vAdd_same (vec_one h) (vec_one k))).symm
theorem sub_add_list {l m : List Int} (h : IsPoly l) (k : IsPoly m) : two vSub (two vAdd l m) m = l := by
  refine list_eq (two_poly (two_poly h k) k) h ?_
  refine ((vec_two (two_poly h k) k).trans (vSub_same (vec_two h k) (Same.refl _))).trans fun p _ => ?_
  unfold vSub vAdd; grind
theorem times_comm_list {l m : List Int} (h : IsPoly l) (k : IsPoly m) : two vTimes l m = two vTimes m l :=
  list_eq (two_poly h k) (two_poly k h) (((vec_two h k).trans (vTimes_comm _ _)).trans (vec_two k h).symm)
theorem times_assoc_list {l m n : List Int} (h : IsPoly l) (k : IsPoly m) (j : IsPoly n) : two vTimes l (two vTimes m n) = two vTimes (two vTimes l m) n := by
  refine list_eq (two_poly h (two_poly k j)) (two_poly (two_poly h k) j) ?_
  refine (((vec_two h (two_poly k j)).trans (vTimes_same (Same.refl _) (vec_two k j))).trans (vTimes_assoc _ _ _)).trans ?_
  exact ((vec_two (two_poly h k) j).trans (vTimes_same (vec_two h k) (Same.refl _))).symm
theorem times_add_list {l m n : List Int} (h : IsPoly l) (k : IsPoly m) (j : IsPoly n) : two vTimes l (two vAdd m n) = two vAdd (two vTimes l m) (two vTimes l n) := by
  refine list_eq (two_poly h (two_poly k j)) (two_poly (two_poly h k) (two_poly h j)) ?_
  refine (((vec_two h (two_poly k j)).trans (vTimes_same (Same.refl _) (vec_two k j))).trans (vTimes_add _ _ _)).trans ?_
  exact ((vec_two (two_poly h k) (two_poly h j)).trans (vAdd_same (vec_two h k) (vec_two h j))).symm
end Go.Proofs.Ytneopnlklhcopaa.Ring
