/- Polys: sums of products. -/
import Derived.Test.YtneopnlklhcopaaPolyI
namespace Go.Proofs.Ytneopnlklhcopaa.Ring

def dotV (ps qs : List (List Int)) : Nat → V
  | 0 => oV
  | k + 1 => vAdd (dotV ps qs k) (vTimes (vec (ps.getD k [])) (vec (qs.getD k [])))
def AllPoly (ps : List (List Int)) : Prop := ∀ k, k < ps.length → IsPoly (ps.getD k [])
open Classical in
noncomputable def dotL (ps qs : List (List Int)) : List Int := if ps.length = qs.length ∧ 0 < ps.length ∧ AllPoly ps ∧ AllPoly qs then toL (dotV ps qs ps.length) else []
theorem dot_yes {ps qs : List (List Int)} (h : ps.length = qs.length ∧ 0 < ps.length ∧ AllPoly ps ∧ AllPoly qs) : dotL ps qs = toL (dotV ps qs ps.length) := if_pos h
theorem dot_no {ps qs : List (List Int)} (h : ¬ (ps.length = qs.length ∧ 0 < ps.length ∧ AllPoly ps ∧ AllPoly qs)) : dotL ps qs = [] := if_neg h
theorem dot_len (ps qs : List (List Int)) : (dotL ps qs).length ≤ 256 := by
  by_cases h : ps.length = qs.length ∧ 0 < ps.length ∧ AllPoly ps ∧ AllPoly qs
  · rw [dot_yes h, toL_length]; exact Nat.le_refl _
  · rw [dot_no h]; decide
theorem zero_toL : zeroL = toL oV := poly_eq zero_poly vec_zero
theorem add_toL (f g : V) : toL (vAdd (vec (toL f)) (vec (toL g))) = toL (vAdd f g) := toL_same (vAdd_same (vec_toL f) (vec_toL g))
/-- the sum of two products with one poly -/
theorem dot_two {l m n : List Int} (h : IsPoly l) (k : IsPoly m) (j : IsPoly n) : dotL [l, m] [n, n] = two vTimes (two vAdd l m) n := by
  have hp : ∀ (a b : List Int), IsPoly a → IsPoly b → AllPoly [a, b] := by
    intro a b ha hb i hi
    have : i = 0 ∨ i = 1 := by simp at hi; omega
    rcases this with rfl | rfl
    · exact ha
    · exact hb
  rw [dot_yes (ps := [l, m]) (qs := [n, n]) ⟨rfl, Nat.zero_lt_succ _, hp l m h k, hp n n j j⟩]
  symm
  refine poly_eq (two_poly (two_poly h k) j) ?_
  refine ((vec_two (two_poly h k) j).trans (vTimes_same (vec_two h k) (Same.refl _))).trans ?_
  refine (vTimes_comm _ _).trans ?_
  refine (vTimes_add _ _ _).trans ?_
  refine (vAdd_same (vTimes_comm _ _) (vTimes_comm _ _)).trans ?_
  intro p _
  show _ = oV p + vTimes (vec l) (vec n) p + vTimes (vec m) (vec n) p
  unfold vAdd oV
  grind
end Go.Proofs.Ytneopnlklhcopaa.Ring
