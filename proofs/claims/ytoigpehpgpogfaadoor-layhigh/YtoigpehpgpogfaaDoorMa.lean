/- Hints as bytes, as the chapter reckons with them. Nothing of the program. -/
import Derived.Test.YtoigpehpgpogfaaDoorNums
namespace Go.Proofs.YtoigpehpgpogfaaDoor.Bit
open Go

def HintPoly (f : List Int) : Prop := f.length = 256 ∧ ∀ j, j < 256 → f.getD j 0 = 0 ∨ f.getD j 0 = 1
def HintShape (K : Nat) (h : List (List Int)) : Prop := h.length = K ∧ ∀ i, i < K → HintPoly (h.getD i [])
/-- the places of the ones among the first t numbers -/
def oneAt (f : List Int) : Nat → List Nat
  | 0 => []
  | t + 1 => oneAt f t ++ (if f.getD t 0 = 1 then [t] else [])
/-- those of the first i polys, one behind the other -/
def places (h : List (List Int)) : Nat → List Nat
  | 0 => []
  | i + 1 => places h i ++ oneAt (h.getD i []) 256
def plTo (h : List (List Int)) (i t : Nat) : List Nat := places h i ++ oneAt (h.getD i []) t
theorem plTo_zero (h : List (List Int)) (i : Nat) : plTo h i 0 = places h i := by unfold plTo oneAt; rw [List.append_nil]
theorem plTo_full (h : List (List Int)) (i : Nat) : plTo h i 256 = places h (i + 1) := rfl
theorem plTo_one {h : List (List Int)} {i t : Nat} (e : (h.getD i []).getD t 0 = 1) : plTo h i (t + 1) = plTo h i t ++ [t] := by
  unfold plTo
  rw [show oneAt (h.getD i []) (t + 1) = oneAt (h.getD i []) t ++ [t] from by show _ ++ _ = _; rw [if_pos e], List.append_assoc]
theorem plTo_not {h : List (List Int)} {i t : Nat} (e : (h.getD i []).getD t 0 ≠ 1) : plTo h i (t + 1) = plTo h i t := by
  unfold plTo
  rw [show oneAt (h.getD i []) (t + 1) = oneAt (h.getD i []) t from by show _ ++ _ = _; rw [if_neg e, List.append_nil]]
theorem oneAt_le (f : List Int) : ∀ {s t : Nat}, s ≤ t → (oneAt f s).length ≤ (oneAt f t).length := by
  intro s t h
  induction t with
  | zero => have : s = 0 := by omega
            subst this; exact Nat.le_refl _
  | succ t ih =>
    by_cases e : s = t + 1
    · subst e; exact Nat.le_refl _
    · refine Nat.le_trans (ih (by omega)) ?_
      show _ ≤ List.length (_ ++ _)
      rw [List.length_append]; omega
theorem places_le (h : List (List Int)) : ∀ {i j : Nat}, i ≤ j → (places h i).length ≤ (places h j).length := by
  intro i j e
  induction j with
  | zero => have : i = 0 := by omega
            subst this; exact Nat.le_refl _
  | succ j ih =>
    by_cases e' : i = j + 1
    · subst e'; exact Nat.le_refl _
    · refine Nat.le_trans (ih (by omega)) ?_
      show _ ≤ List.length (_ ++ _)
      rw [List.length_append]; omega
theorem plTo_le (h : List (List Int)) {i t K : Nat} (hi : i < K) (ht : t ≤ 256) : (plTo h i t).length ≤ (places h K).length := by
  refine Nat.le_trans ?_ (places_le h (i := i + 1) (by omega))
  show List.length (_ ++ _) ≤ List.length (_ ++ _)
  rw [List.length_append, List.length_append]
  have := oneAt_le (h.getD i []) ht
  omega
theorem oneAt_lt (f : List Int) : ∀ (t : Nat) (x : Nat), x ∈ oneAt f t → x < t := by
  intro t
  induction t with
  | zero => intro x hx; cases hx
  | succ t ih =>
    intro x hx
    have hx' : x ∈ oneAt f t ++ (if f.getD t 0 = 1 then [t] else []) := hx
    rw [List.mem_append] at hx'
    rcases hx' with h | h
    · have := ih x h; omega
    · split at h
      · simp at h; omega
      · cases h

def counts (h : List (List Int)) (i : Nat) : List Int := (List.range i).map fun j => ((places h (j + 1)).length : Int)
theorem counts_len (h : List (List Int)) (i : Nat) : (counts h i).length = i := by simp [counts]
theorem counts_succ (h : List (List Int)) (i : Nat) : counts h (i + 1) = counts h i ++ [((places h (i + 1)).length : Int)] := by
  unfold counts
  rw [List.range_succ, List.map_append]; rfl
/-- bytes: places, zeros up to W, then counts, zeros up to K -/
def outL (K W : Nat) (P : List Nat) (C : List Int) : List Int := int P ++ List.replicate (W - P.length) 0 ++ (C ++ List.replicate (K - C.length) 0)
theorem outL_len {K W : Nat} {P : List Nat} {C : List Int} (hP : P.length ≤ W) (hC : C.length ≤ K) : (outL K W P C).length = W + K := by
  unfold outL
  simp only [List.length_append, int_len, List.length_replicate]; omega
theorem outL_start (K W : Nat) : outL K W [] [] = List.replicate (W + K) 0 := by
  unfold outL
  simp [int, List.replicate_append_replicate]
theorem set_zero_head {n : Nat} (x : Int) (h : 0 < n) (r : List Int) : (List.replicate n (0 : Int) ++ r).set 0 x = x :: (List.replicate (n - 1) 0 ++ r) := by
  obtain ⟨m, rfl⟩ : ∃ m, n = m + 1 := ⟨n - 1, by omega⟩
  simp [List.replicate_succ]
theorem outL_put {K W : Nat} {P : List Nat} {C : List Int} (hP : P.length < W) (t : Nat) : (outL K W P C).set P.length (t : Int) = outL K W (P ++ [t]) C := by
  unfold outL
  rw [List.append_assoc, List.set_append_right _ _ (by rw [int_len]; exact Nat.le_refl _), int_len, Nat.sub_self, set_zero_head _ (by omega), int_app, List.length_append]
  have e : W - P.length - 1 = W - (P.length + 1) := by omega
  simp only [List.length_cons, List.length_nil, e, List.append_assoc]
  rfl
theorem outL_count {K W : Nat} {P : List Nat} {C : List Int} (hP : P.length ≤ W) (hC : C.length < K) (c : Int) : (outL K W P C).set (W + C.length) c = outL K W P (C ++ [c]) := by
  unfold outL
  have e1 : (int P ++ List.replicate (W - P.length) 0).length = W := by simp only [List.length_append, int_len, List.length_replicate]; omega
  rw [List.set_append_right _ _ (by rw [e1]; omega), e1, Nat.add_sub_cancel_left, List.set_append_right _ _ (Nat.le_refl _), Nat.sub_self]
  have e2 : (List.replicate (K - C.length) (0 : Int)).set 0 c = c :: List.replicate (K - C.length - 1) 0 := by
    have := set_zero_head c (n := K - C.length) (by omega) []
    simpa using this
  rw [e2, List.length_append]
  have e : K - C.length - 1 = K - (C.length + 1) := by omega
  simp only [List.length_cons, List.length_nil, e, List.append_assoc]
  rfl

open Classical in
/-- the number of the error; 0: none -/
noncomputable def hintsE (K W : Nat) (h : List (List Int)) : Int := if HintShape K h then (if W < (places h K).length then 5 else 0) else 3
theorem hintsE_shape {K W : Nat} {h : List (List Int)} (e : ¬ HintShape K h) : hintsE K W h = 3 := if_neg e
theorem hintsE_over {K W : Nat} {h : List (List Int)} (e : HintShape K h) (g : W < (places h K).length) : hintsE K W h = 5 := by unfold hintsE; rw [if_pos e, if_pos g]
theorem hintsE_ok {K W : Nat} {h : List (List Int)} (e : HintShape K h) (g : (places h K).length ≤ W) : hintsE K W h = 0 := by unfold hintsE; rw [if_pos e, if_neg (by omega)]
def hintsL (K W : Nat) (h : List (List Int)) : List Int := outL K W (places h K) (counts h K)
/-- what is told beside it -/
noncomputable def hintsB (K W : Nat) (h : List (List Int)) : List Int := if hintsE K W h = 0 then hintsL K W h else []
end Go.Proofs.YtoigpehpgpogfaaDoor.Bit
