/- Polys within bounds as bytes, and back, as the chapter reckons with them. Nothing of the program. -/
import Derived.Test.YtoigpehpgpogfaaDoorNums
namespace Go.Proofs.YtoigpehpgpogfaaDoor.Bit
open Go

/-- how many bits a number has -/
def blen (n : Nat) : Nat := if n = 0 then 0 else Nat.log2 n + 1
theorem blen_zero : blen 0 = 0 := rfl
theorem blen_step {n : Nat} (h : 0 < n) : blen n = blen (n / 2) + 1 := by
  unfold blen
  rw [if_neg (by omega)]
  by_cases h2 : 2 ≤ n
  · rw [if_neg (by omega), Nat.log2_def, if_pos h2]
  · have e : n = 1 := by omega
    subst e
    decide
theorem blen_lt : ∀ n : Nat, n < 2 ^ blen n := by
  intro n
  by_cases h : n = 0
  · subst h; decide
  · unfold blen
    rw [if_neg h]
    exact Nat.lt_log2_self
theorem blen_le : ∀ (k n : Nat), n < 2 ^ k → blen n ≤ k := by
  intro k
  induction k with
  | zero => intro n h; have : n = 0 := by simpa using h
            subst this; decide
  | succ k ih =>
    intro n h
    by_cases h0 : n = 0
    · subst h0; rw [blen_zero]; omega
    · rw [blen_step (by omega)]
      have := ih (n / 2) (by rw [Nat.pow_succ] at h; omega)
      omega
theorem blen_pos {n : Nat} (h : 0 < n) : 1 ≤ blen n := by rw [blen_step h]; omega

/-- bounds that may be -/
def Bounds (a b : Int) : Prop := 0 ≤ a ∧ 0 ≤ b ∧ a ≤ 1048576 ∧ b ≤ 1048576
instance (a b : Int) : Decidable (Bounds a b) := by unfold Bounds; infer_instance
def widthI (a b : Int) : Nat := if Bounds a b then blen (a + b).toNat else 0
theorem width_yes {a b : Int} (h : Bounds a b) : widthI a b = blen (a + b).toNat := if_pos h
theorem width_no {a b : Int} (h : ¬ Bounds a b) : widthI a b = 0 := if_neg h
theorem width_le (a b : Int) : widthI a b ≤ 22 := by
  unfold widthI
  split
  · next h => unfold Bounds at h; exact blen_le 22 _ (by omega)
  · omega
theorem width_bounds {a b : Int} (h : 1 ≤ widthI a b) : Bounds a b := by
  apply Classical.byContradiction
  intro g
  rw [width_no g] at h
  omega
theorem width_fits {a b : Int} (h : 1 ≤ widthI a b) : a + b < 2 ^ widthI a b := by
  have hb := width_bounds h
  rw [width_yes hb, pow_cast]
  have := blen_lt (a + b).toNat
  unfold Bounds at hb
  omega

def okN (x : Int) : Prop := 0 ≤ x ∧ x ≤ 8380416
def IsPoly (l : List Int) : Prop := l.length = 256 ∧ ∀ k, k < 256 → okN (l.getD k 0)
/-- a number from 0 to q - 1 as one about 0, b the greatest -/
def about (b x : Int) : Int := if b < x then x - 8380417 else x
/-- a poly whose first k numbers are all from -a to b -/
def InTo (a b : Int) (f : List Int) (k : Nat) : Prop := ∀ j, j < k → -a ≤ about b (f.getD j 0)
def NearOk (a b : Int) (f : List Int) : Prop := 1 ≤ widthI a b ∧ IsPoly f ∧ InTo a b f 256
def lessL (b : Int) (f : List Int) : List Int := f.map fun x => b - about b x
theorem lessL_len (b : Int) (f : List Int) : (lessL b f).length = f.length := by simp [lessL]
theorem lessL_at (b : Int) (f : List Int) {k : Nat} (h : k < f.length) : (lessL b f).getD k 0 = b - about b (f.getD k 0) := by
  unfold lessL
  rw [List.getD_eq_getElem?_getD, List.getElem?_map, List.getD_eq_getElem?_getD, List.getElem?_eq_getElem h]; rfl
theorem lessL_more {b : Int} {f : List Int} {k : Nat} (h : k < f.length) : (lessL b f).take (k + 1) = (lessL b f).take k ++ [b - about b (f.getD k 0)] := by
  have hk : k < (lessL b f).length := by rw [lessL_len]; exact h
  rw [List.take_add_one, List.getElem?_eq_getElem hk]
  have e := lessL_at b f h
  rw [List.getD_eq_getElem?_getD, List.getElem?_eq_getElem hk] at e
  simp only [Option.getD_some] at e
  rw [e]; rfl
open Classical in
noncomputable def nearI (a b : Int) (f : List Int) : List Int := if NearOk a b f then packI (widthI a b) (lessL b f) else []
theorem near_yes {a b : Int} {f : List Int} (h : NearOk a b f) : nearI a b f = packI (widthI a b) (lessL b f) := if_pos h
theorem near_no {a b : Int} {f : List Int} (h : ¬ NearOk a b f) : nearI a b f = [] := if_neg h
theorem about_le {b x : Int} (hb : 0 ≤ b) (hx : okN x) : about b x ≤ b := by
  unfold about okN at *
  split <;> omega
theorem less_fit {a b : Int} {f : List Int} (h : NearOk a b f) : Fit (widthI a b) (lessL b f) := by
  obtain ⟨h1, h2, h3⟩ := h
  intro i hi
  rw [lessL_len, h2.1] at hi
  rw [lessL_at b f (by rw [h2.1]; exact hi)]
  have hb := width_bounds h1
  have := about_le (b := b) hb.2.1 (h2.2 i hi)
  have := h3 i hi
  have := width_fits h1
  omega

def farL (b : Int) (l : List Int) : List Int := l.map fun x => (b - x) % 8380417
theorem farL_len (b : Int) (l : List Int) : (farL b l).length = l.length := by simp [farL]
theorem farL_at (b : Int) (l : List Int) {k : Nat} (h : k < l.length) : (farL b l).getD k 0 = (b - l.getD k 0) % 8380417 := by
  unfold farL
  rw [List.getD_eq_getElem?_getD, List.getElem?_map, List.getD_eq_getElem?_getD, List.getElem?_eq_getElem h]; rfl
def farI (a b : Int) (l : List Int) : List Int := if 1 ≤ widthI a b ∧ l.length = 32 * widthI a b then farL b (unpackI (widthI a b) l) else []
theorem far_yes {a b : Int} {l : List Int} (h : 1 ≤ widthI a b ∧ l.length = 32 * widthI a b) : farI a b l = farL b (unpackI (widthI a b) l) := if_pos h
theorem far_no {a b : Int} {l : List Int} (h : ¬ (1 ≤ widthI a b ∧ l.length = 32 * widthI a b)) : farI a b l = [] := if_neg h
/-- the first k numbers are turned -/
def farTo (b : Int) (l : List Int) (k : Nat) : List Int := farL b (l.take k) ++ l.drop k
theorem farTo_zero (b : Int) (l : List Int) : farTo b l 0 = l := by simp [farTo, farL]
theorem farTo_len (b : Int) (l : List Int) (k : Nat) : (farTo b l k).length = l.length := by
  unfold farTo
  rw [List.length_append, farL_len, List.length_take, List.length_drop]; omega
theorem farTo_all (b : Int) (l : List Int) : farTo b l l.length = farL b l := by simp [farTo]
theorem farTo_at (b : Int) (l : List Int) {k : Nat} (h : k < l.length) : (farTo b l k).getD k 0 = l.getD k 0 := by
  unfold farTo
  rw [List.getD_eq_getElem?_getD, List.getElem?_append_right (by rw [farL_len, List.length_take]; omega), farL_len, List.length_take, Nat.min_eq_left (by omega), Nat.sub_self, List.getElem?_drop, Nat.add_zero, ← List.getD_eq_getElem?_getD]
theorem farTo_next (b : Int) (l : List Int) {k : Nat} (h : k < l.length) : (farTo b l k).set k ((b - l.getD k 0) % 8380417) = farTo b l (k + 1) := by
  unfold farTo
  rw [List.set_append_right _ _ (by rw [farL_len, List.length_take]; omega), farL_len, List.length_take, Nat.min_eq_left (by omega), Nat.sub_self, List.drop_eq_getElem_cons h, List.set_cons_zero, List.take_add_one, List.getElem?_eq_getElem h]
  unfold farL
  rw [List.map_append, List.getD_eq_getElem?_getD, List.getElem?_eq_getElem h]
  simp
end Go.Proofs.YtoigpehpgpogfaaDoor.Bit
