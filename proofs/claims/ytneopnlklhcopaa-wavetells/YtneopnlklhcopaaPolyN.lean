/- Polys: how far they are from 0. -/
import Derived.Test.YtneopnlklhcopaaPolyK
namespace Go.Proofs.Ytneopnlklhcopaa.Ring

def nv (a : F) : Int := norm (a.val : Int)
theorem nv_phi (x : Int) : nv (phi x) = norm x := by unfold nv; rw [phi_val]; exact norm_of x
theorem nv_lo (a : F) : 0 ≤ nv a := norm_lo _
theorem nv_hi (a : F) : nv a ≤ 4190208 := norm_hi _
theorem nv_add (a b : F) : nv (a + b) ≤ nv a + nv b := by
  have h := norm_add (a.val : Int) (b.val : Int)
  rw [← nv_phi, phi_add, phi_of_val, phi_of_val] at h
  exact h
theorem nv_neg (a : F) : nv (0 - a) = nv a := by
  have h := norm_neg (a.val : Int)
  rw [← nv_phi, show -(a.val : Int) = 0 - (a.val : Int) by omega, phi_sub, phi_of_val, phi_zero] at h
  exact h

/-- the greatest of the first k numbers -/
def nTo (f : V) : Nat → Int
  | 0 => 0
  | k + 1 => max (nTo f k) (nv (f k))
theorem nTo_lo (f : V) (k : Nat) : 0 ≤ nTo f k := by
  induction k with
  | zero => exact Int.le_refl _
  | succ k ih => exact Int.le_trans ih (Int.le_max_left _ _)
theorem nTo_hi (f : V) (k : Nat) : nTo f k ≤ 4190208 := by
  induction k with
  | zero => show (0 : Int) ≤ _; omega
  | succ k ih => exact Int.max_le.mpr ⟨ih, nv_hi _⟩
theorem nTo_ge (f : V) {k p : Nat} (h : p < k) : nv (f p) ≤ nTo f k := by
  induction k with
  | zero => omega
  | succ k ih =>
    by_cases e : p = k
    · subst e; exact Int.le_max_right _ _
    · exact Int.le_trans (ih (by omega)) (Int.le_max_left _ _)
theorem nTo_le (f : V) {k : Nat} {b : Int} (b0 : 0 ≤ b) (h : ∀ p, p < k → nv (f p) ≤ b) : nTo f k ≤ b := by
  induction k with
  | zero => exact b0
  | succ k ih => exact Int.max_le.mpr ⟨ih fun p hp => h p (by omega), h k (by omega)⟩
def nV (f : V) : Int := nTo f 256
theorem nV_same {f g : V} (h : Same f g) : nV f = nV g := by
  refine Int.le_antisymm ?_ ?_
  · exact nTo_le f (nTo_lo g _) fun p hp => by rw [h p hp]; exact nTo_ge g hp
  · exact nTo_le g (nTo_lo f _) fun p hp => by rw [← h p hp]; exact nTo_ge f hp
theorem nV_add (f g : V) : nV (vAdd f g) ≤ nV f + nV g := by
  refine nTo_le _ (by have := nTo_lo f 256; have := nTo_lo g 256; unfold nV; omega) fun p hp => ?_
  have a := nv_add (f p) (g p)
  have b := nTo_ge f hp
  have c := nTo_ge g hp
  unfold nV
  show nv (f p + g p) ≤ _
  omega
theorem nV_neg (f : V) : nV (vSub oV f) = nV f := by
  have e : ∀ p, nv (vSub oV f p) = nv (f p) := fun p => nv_neg (f p)
  refine Int.le_antisymm ?_ ?_
  · exact nTo_le _ (nTo_lo f _) fun p hp => by rw [e]; exact nTo_ge f hp
  · exact nTo_le f (nTo_lo _ _) fun p hp => by rw [← e]; exact nTo_ge (vSub oV f) hp
theorem nV_tn (m : Nat) (hm : m ≤ 256) (f : V) : nV (tn m f) = nV f := by
  have e : ∀ p, nv (tn m f p) = nv (f (was m p)) := fun p => by
    unfold tn; split
    · exact nv_neg _
    · rfl
  refine Int.le_antisymm ?_ ?_
  · exact nTo_le _ (nTo_lo f _) fun p hp => by rw [e]; exact nTo_ge f (by unfold was; omega)
  · refine nTo_le f (nTo_lo _ _) fun p hp => ?_
    have hw : was m ((p + m) % 256) = p := by unfold was; omega
    have := nTo_ge (tn m f) (k := 256) (p := (p + m) % 256) (by omega)
    rw [e, hw] at this
    exact this

/-- the greatest of the first k polys -/
def nAll (ps : List (List Int)) : Nat → Int
  | 0 => 0
  | k + 1 => max (nAll ps k) (nV (vec (ps.getD k [])))
theorem nAll_lo (ps : List (List Int)) (k : Nat) : 0 ≤ nAll ps k := by
  induction k with
  | zero => exact Int.le_refl _
  | succ k ih => exact Int.le_trans ih (Int.le_max_left _ _)
theorem nAll_hi (ps : List (List Int)) (k : Nat) : nAll ps k ≤ 4190208 := by
  induction k with
  | zero => show (0 : Int) ≤ _; omega
  | succ k ih => exact Int.max_le.mpr ⟨ih, nTo_hi _ _⟩
open Classical in
noncomputable def normL (ps : List (List Int)) : Int := if AllPoly ps then nAll ps ps.length else -1
theorem normL_yes {ps : List (List Int)} (h : AllPoly ps) : normL ps = nAll ps ps.length := if_pos h
theorem normL_no {ps : List (List Int)} (h : ¬ AllPoly ps) : normL ps = -1 := if_neg h
theorem normL_bd (ps : List (List Int)) : -1 ≤ normL ps ∧ normL ps ≤ 4190208 := by
  by_cases h : AllPoly ps
  · rw [normL_yes h]; exact ⟨by have := nAll_lo ps ps.length; omega, nAll_hi _ _⟩
  · rw [normL_no h]; omega
theorem all_one {l : List Int} (h : IsPoly l) : AllPoly [l] := fun k hk => by
  have : k = 0 := by simp at hk; omega
  subst this; exact h
theorem all_two {l m : List Int} (h : IsPoly l) (h' : IsPoly m) : AllPoly [l, m] := fun k hk => by
  have : k = 0 ∨ k = 1 := by simp at hk; omega
  rcases this with rfl | rfl
  · exact h
  · exact h'
theorem normL_one {l : List Int} (h : IsPoly l) : normL [l] = nV (vec l) := by
  rw [normL_yes (all_one h)]
  show max 0 (nV (vec l)) = _
  have := nTo_lo (vec l) 256
  unfold nV; omega
theorem normL_two {l m : List Int} (h : IsPoly l) (h' : IsPoly m) : normL [l, m] = max (nV (vec l)) (nV (vec m)) := by
  rw [normL_yes (all_two h h')]
  show max (max 0 (nV (vec l))) (nV (vec m)) = _
  have := nTo_lo (vec l) 256
  unfold nV; omega
theorem normL_nil : normL [] = 0 := by rw [normL_yes fun k hk => by cases hk]; rfl
theorem normL_none : normL [[]] = -1 := normL_no fun h => by have := (h 0 (by simp)).1; simp at this
theorem norm_add_list {l m : List Int} (h : IsPoly l) (k : IsPoly m) : normL [two vAdd l m] ≤ normL [l] + normL [m] := by
  rw [normL_one (two_poly h k), normL_one h, normL_one k, nV_same (vec_two h k)]
  exact nV_add _ _
theorem norm_neg_list {l : List Int} (h : IsPoly l) : normL [two vSub zeroL l] = normL [l] := by
  rw [normL_one (two_poly zero_poly h), normL_one h, nV_same ((vec_two zero_poly h).trans (vSub_same vec_zero (Same.refl _)))]
  exact nV_neg _
theorem norm_max_list {l m : List Int} (h : IsPoly l) (k : IsPoly m) : normL [l, m] = max (normL [l]) (normL [m]) := by
  rw [normL_one h, normL_one k, normL_two h k]
theorem norm_turn_list {l m : List Int} (n : Nat) (hn : n ≤ 256) (h : IsPoly l) (k : IsPoly m) (hs : Same (vec m) (tn n (vec l))) : normL [m] = normL [l] := by
  rw [normL_one h, normL_one k, nV_same hs, nV_tn n hn]
theorem norm_unit (i : Nat) (hi : i < 256) : normL [unitL 256 i] = 1 := by
  rw [normL_one (unit_poly i), nV_same (vec_unit i hi)]
  have one : nv 1 = 1 := by decide
  refine Int.le_antisymm (nTo_le _ (by omega) fun p _ => ?_) ?_
  · unfold uV
    split
    · rw [one]; exact Int.le_refl _
    · show nv 0 ≤ 1
      decide
  · have := nTo_ge (uV i) hi
    have e : uV i i = 1 := by unfold uV; rw [if_pos rfl]
    rw [e, one] at this
    exact this
end Go.Proofs.Ytneopnlklhcopaa.Ring
