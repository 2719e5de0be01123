/- Polys as lists of numbers; a step of the way over, place by place. -/
import Derived.Test.YtneopnlklhcopaaPolyC
namespace Go.Proofs.Ytneopnlklhcopaa.Ring

def okN (x : Int) : Prop := 0 ≤ x ∧ x ≤ 8380416
def IsPoly (l : List Int) : Prop := l.length = 256 ∧ ∀ k, k < 256 → okN (l.getD k 0)
def vec (l : List Int) : V := fun p => phi (l.getD p 0)
def toL (f : V) : List Int := (List.range 256).map fun p => ((f p).val : Int)
theorem toL_length (f : V) : (toL f).length = 256 := by rw [toL, List.length_map, List.length_range]
theorem toL_at (f : V) {p : Nat} (h : p < 256) : (toL f).getD p 0 = ((f p).val : Int) := by
  rw [List.getD_eq_getElem?_getD, toL, List.getElem?_map, List.getElem?_range h]; rfl
theorem toL_poly (f : V) : IsPoly (toL f) := ⟨toL_length f, fun k hk => by rw [toL_at f hk]; have := (f k).isLt; unfold okN; omega⟩
theorem phi_of_val (a : F) : phi (a.val : Int) = a := by apply val_eq; have := phi_val (a.val : Int); have := a.isLt; omega
theorem vec_toL (f : V) : Same (vec (toL f)) f := fun p hp => by unfold vec; rw [toL_at f hp, phi_of_val]
theorem toL_vec {l : List Int} (h : IsPoly l) : toL (vec l) = l := by
  apply List.ext_getElem?
  intro k
  by_cases hk : k < 256
  · have h1 : k < (toL (vec l)).length := by rw [toL_length]; exact hk
    have h2 : k < l.length := by rw [h.1]; exact hk
    have e := toL_at (vec l) hk
    have o := h.2 k hk
    rw [List.getD_eq_getElem?_getD, List.getElem?_eq_getElem h1] at e
    rw [List.getD_eq_getElem?_getD, List.getElem?_eq_getElem h2] at o
    rw [List.getElem?_eq_getElem h1, List.getElem?_eq_getElem h2]
    congr 1
    have v : vec l k = phi (l[k]) := by unfold vec; rw [List.getD_eq_getElem?_getD, List.getElem?_eq_getElem h2]; rfl
    rw [v] at e
    have := phi_val l[k]
    unfold okN at o
    simp only [Option.getD_some] at e o
    omega
  · rw [List.getElem?_eq_none (by rw [toL_length]; omega), List.getElem?_eq_none (by rw [h.1]; omega)]
theorem toL_same {f g : V} (h : Same f g) : toL f = toL g := by
  unfold toL
  apply List.map_congr_left
  intro p hp
  rw [h p (List.mem_range.mp hp)]
theorem poly_eq {l : List Int} (h : IsPoly l) {f : V} (hf : Same (vec l) f) : l = toL f := by rw [← toL_same hf, toL_vec h]
theorem vec_set {l : List Int} {i : Nat} (hi : i < l.length) (x : Int) (p : Nat) : vec (l.set i x) p = if p = i then phi x else vec l p := by
  unfold vec
  rw [List.getD_eq_getElem?_getD, List.getElem?_set]
  by_cases h : i = p
  · subst h; rw [if_pos rfl, if_pos hi, if_pos rfl]; rfl
  · rw [if_neg h, if_neg (fun e => h e.symm), ← List.getD_eq_getElem?_getD]

/-- the way over at L, where the blocks ahead of s are done, and of the block at s the first j - s pairs -/
def Mix (L : Nat) (f : V) (s j : Nat) : V := fun p => if p < j ∨ (s + L ≤ p ∧ p < j + L) then overL L f p else f p

theorem mix_start (L : Nat) (f : V) : Mix L f 0 0 = f := by funext p; unfold Mix; rw [if_neg (by omega)]
theorem mix_block (L : Nat) (f : V) (s : Nat) : Mix L f s (s + L) = Mix L f (s + 2 * L) (s + 2 * L) := by
  funext p; unfold Mix
  by_cases h : p < s + L ∨ (s + L ≤ p ∧ p < s + L + L)
  · rw [if_pos h, if_pos (by omega)]
  · rw [if_neg h, if_neg (by omega)]
theorem mix_end (L : Nat) (f : V) (s : Nat) (h : 256 ≤ s) : Same (Mix L f s s) (overL L f) := fun p hp => by unfold Mix; rw [if_pos (by omega)]
theorem in_lower {L b p : Nat} (hL : 0 < L) (h0 : 2 * L * b ≤ p) (h1 : p < 2 * L * b + L) : p % (2 * L) < L ∧ p / (2 * L) = b := by
  obtain ⟨r, rfl⟩ : ∃ r, p = r + 2 * L * b := ⟨p - 2 * L * b, by omega⟩
  rw [Nat.add_mul_mod_self_left, Nat.add_mul_div_left _ _ (by omega : 0 < 2 * L), Nat.mod_eq_of_lt (by omega), Nat.div_eq_of_lt (by omega)]
  omega
theorem in_upper {L b p : Nat} (hL : 0 < L) (h0 : 2 * L * b + L ≤ p) (h1 : p < 2 * L * b + 2 * L) : ¬ p % (2 * L) < L ∧ p / (2 * L) = b := by
  obtain ⟨r, rfl⟩ : ∃ r, p = r + 2 * L * b := ⟨p - 2 * L * b, by omega⟩
  rw [Nat.add_mul_mod_self_left, Nat.add_mul_div_left _ _ (by omega : 0 < 2 * L), Nat.mod_eq_of_lt (by omega), Nat.div_eq_of_lt (by omega)]
  omega
theorem mix_at {L s j : Nat} (f : V) (h1 : j < s + L) : Mix L f s j j = f j ∧ Mix L f s j (j + L) = f (j + L) := by
  unfold Mix
  rw [if_neg (by omega), if_neg (by omega)]
  exact ⟨rfl, rfl⟩
theorem mix_step {L b j : Nat} (f : V) (hL : 0 < L) (h0 : 2 * L * b ≤ j) (h1 : j < 2 * L * b + L) (p : Nat) :
    Mix L f (2 * L * b) (j + 1) p = if p = j then f j + zr (128 / L + b) * f (j + L) else if p = j + L then f j - zr (128 / L + b) * f (j + L) else Mix L f (2 * L * b) j p := by
  by_cases e : p = j
  · subst e
    obtain ⟨c1, c2⟩ := in_lower hL h0 h1
    unfold Mix overL
    rw [if_pos rfl, if_pos (by omega), if_pos c1, c2]
  · rw [if_neg e]
    by_cases e' : p = j + L
    · subst e'
      obtain ⟨c1, c2⟩ := in_upper (b := b) (p := j + L) hL (by omega) (by omega)
      unfold Mix overL
      rw [if_pos rfl, if_pos (by omega), if_neg c1, c2, Nat.add_sub_cancel]
    · rw [if_neg e']
      unfold Mix
      by_cases c : p < j ∨ (2 * L * b + L ≤ p ∧ p < j + L)
      · rw [if_pos c, if_pos (by omega)]
      · rw [if_neg c, if_neg (by omega)]

/-- m steps of the way over are done -/
def lv : Nat → V → V
  | 0, f => f
  | m + 1, f => overL (128 / 2 ^ m) (lv m f)
theorem lv_all (f : V) : lv 8 f = vOver f := rfl

theorem set_poly {l : List Int} (h : IsPoly l) (i : Nat) {x : Int} (hx : okN x) : IsPoly (l.set i x) := by
  refine ⟨by rw [List.length_set]; exact h.1, fun k hk => ?_⟩
  rw [List.getD_eq_getElem?_getD, List.getElem?_set]
  split
  · split
    · exact hx
    · unfold okN; simp
  · rw [← List.getD_eq_getElem?_getD]; exact h.2 k hk
theorem rem_ok (x : Int) : okN (x % 8380417) := by unfold okN; omega
theorem phi_rem (x : Int) : phi (x % 8380417) = phi x := phi_of x
theorem phi_q : phi 8380417 = 0 := by decide
/-- a pair of the way over, as numbers -/
theorem pair_step {L b j : Nat} {f : V} {l : List Int} (hL : 0 < L) (h0 : 2 * L * b ≤ j) (h1 : j < 2 * L * b + L) (h2 : j + L < 256) (hp : IsPoly l) (hs : Same (vec l) (Mix L f (2 * L * b) j))
    {z u v : Int} (hz : phi z = zr (128 / L + b)) (hu : phi u = phi (l.getD j 0) - phi z * phi (l.getD (j + L) 0)) (hv : phi v = phi (l.getD j 0) + phi z * phi (l.getD (j + L) 0)) (ou : okN u) (ov : okN v) :
    IsPoly ((l.set (j + L) u).set j v) ∧ Same (vec ((l.set (j + L) u).set j v)) (Mix L f (2 * L * b) (j + 1)) := by
  refine ⟨set_poly (set_poly hp _ ou) _ ov, fun p hp' => ?_⟩
  obtain ⟨m1, m2⟩ := mix_at f h1
  have e1 : phi (l.getD j 0) = f j := (hs j (by omega)).trans m1
  have e2 : phi (l.getD (j + L) 0) = f (j + L) := (hs (j + L) h2).trans m2
  rw [vec_set (by rw [List.length_set, hp.1]; omega), mix_step f hL h0 h1]
  by_cases c : p = j
  · rw [if_pos c, if_pos c, hv, e1, e2, hz]
  · rw [if_neg c, if_neg c, vec_set (by rw [hp.1]; omega)]
    by_cases d : p = j + L
    · rw [if_pos d, if_pos d, hu, e1, e2, hz]
    · rw [if_neg d, if_neg d]; exact hs p hp'
theorem ref_pair (x y z : Int) : phi ((x - z * y % 8380417 + 8380417) % 8380417) = phi x - phi z * phi y ∧ phi ((x + z * y % 8380417) % 8380417) = phi x + phi z * phi y := by
  rw [phi_rem, phi_rem, phi_add, phi_add, phi_sub, phi_rem, phi_mul, phi_q]
  exact ⟨by grind, rfl⟩
theorem rPow_ok (a n : Int) : okN (rPow a n) := by
  unfold rPow
  split
  · unfold okN; omega
  · exact ⟨rOf_lo _, rOf_hi _⟩
theorem rRoot_ok (i : Int) : okN (rRoot i) := rPow_ok _ _
theorem near_pair (x y z : Int) : phi ((x - z * y) % 8380417) = phi x - phi z * phi y ∧ phi ((x + z * y) % 8380417) = phi x + phi z * phi y := by
  rw [phi_rem, phi_rem, phi_add, phi_sub, phi_mul]
  exact ⟨rfl, rfl⟩
theorem val_phi {x : Int} (h : okN x) : ((phi x).val : Int) = x := by have := phi_val x; unfold okN at h; omega
theorem toL_take_succ (f : V) {k : Nat} (h : k < 256) {x : Int} (ox : okN x) (hx : phi x = f k) : (toL f).take (k + 1) = (toL f).take k ++ [x] := by
  rw [List.take_succ_eq_append_getElem (by rw [toL_length]; exact h)]
  have e := toL_at f h
  rw [List.getD_eq_getElem?_getD, List.getElem?_eq_getElem (by rw [toL_length]; exact h), ← hx, val_phi ox] at e
  rw [show (toL f)[k]'(by rw [toL_length]; exact h) = x from e]
theorem toL_take_all (f : V) : (toL f).take 256 = toL f := List.take_of_length_le (by rw [toL_length]; exact Nat.le_refl _)
theorem toL_take_len (f : V) {k : Nat} (h : k ≤ 256) : ((toL f).take k).length = k := by rw [List.length_take, toL_length]; omega
theorem rAdd_ok (a b : Int) : okN (rAdd a b) := ⟨rOf_lo _, rOf_hi _⟩
theorem rSub_ok (a b : Int) : okN (rSub a b) := ⟨rOf_lo _, rOf_hi _⟩
theorem rMul_ok (a b : Int) : okN (rMul a b) := ⟨rOf_lo _, rOf_hi _⟩
end Go.Proofs.Ytneopnlklhcopaa.Ring
