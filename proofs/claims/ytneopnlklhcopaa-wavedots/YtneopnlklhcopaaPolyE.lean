/- Polys as lists of numbers: a step of the way back, place by place. -/
import Derived.Test.YtneopnlklhcopaaPolyD
namespace Go.Proofs.Ytneopnlklhcopaa.Ring

/-- the way back at L, where the blocks ahead of s are done, and of the block at s the first j - s pairs -/
def MixB (L : Nat) (f : V) (s j : Nat) : V := fun p => if p < j ∨ (s + L ≤ p ∧ p < j + L) then backL L f p else f p
theorem mixB_start (L : Nat) (f : V) : MixB L f 0 0 = f := by funext p; unfold MixB; rw [if_neg (by omega)]
theorem mixB_block (L : Nat) (f : V) (s : Nat) : MixB L f s (s + L) = MixB L f (s + 2 * L) (s + 2 * L) := by
  funext p; unfold MixB
  by_cases h : p < s + L ∨ (s + L ≤ p ∧ p < s + L + L)
  · rw [if_pos h, if_pos (by omega)]
  · rw [if_neg h, if_neg (by omega)]
theorem mixB_end (L : Nat) (f : V) (s : Nat) (h : 256 ≤ s) : Same (MixB L f s s) (backL L f) := fun p hp => by unfold MixB; rw [if_pos (by omega)]
theorem mixB_at {L s j : Nat} (f : V) (h1 : j < s + L) : MixB L f s j j = f j ∧ MixB L f s j (j + L) = f (j + L) := by
  unfold MixB
  rw [if_neg (by omega), if_neg (by omega)]
  exact ⟨rfl, rfl⟩
theorem mixB_step {L b j : Nat} (f : V) (hL : 0 < L) (h0 : 2 * L * b ≤ j) (h1 : j < 2 * L * b + L) (p : Nat) :
    MixB L f (2 * L * b) (j + 1) p = if p = j then f j + f (j + L) else if p = j + L then zr (256 / L - 1 - b) * (f (j + L) - f j) else MixB L f (2 * L * b) j p := by
  by_cases e : p = j
  · subst e
    obtain ⟨c1, c2⟩ := in_lower hL h0 h1
    unfold MixB backL
    rw [if_pos rfl, if_pos (by omega), if_pos c1]
  · rw [if_neg e]
    by_cases e' : p = j + L
    · subst e'
      obtain ⟨c1, c2⟩ := in_upper (b := b) (p := j + L) hL (by omega) (by omega)
      unfold MixB backL
      rw [if_pos rfl, if_pos (by omega), if_neg c1, c2, Nat.add_sub_cancel]
    · rw [if_neg e']
      unfold MixB
      by_cases c : p < j ∨ (2 * L * b + L ≤ p ∧ p < j + L)
      · rw [if_pos c, if_pos (by omega)]
      · rw [if_neg c, if_neg (by omega)]
theorem pairB_step {L b j : Nat} {f : V} {l : List Int} (hL : 0 < L) (h0 : 2 * L * b ≤ j) (h1 : j < 2 * L * b + L) (h2 : j + L < 256) (hp : IsPoly l) (hs : Same (vec l) (MixB L f (2 * L * b) j))
    {z u v : Int} (hz : phi z = zr (256 / L - 1 - b)) (hu : phi u = phi z * (phi (l.getD (j + L) 0) - phi (l.getD j 0))) (hv : phi v = phi (l.getD j 0) + phi (l.getD (j + L) 0)) (ou : okN u) (ov : okN v) :
    IsPoly ((l.set j v).set (j + L) u) ∧ Same (vec ((l.set j v).set (j + L) u)) (MixB L f (2 * L * b) (j + 1)) := by
  refine ⟨set_poly (set_poly hp _ ov) _ ou, fun p hp' => ?_⟩
  obtain ⟨m1, m2⟩ := mixB_at f h1
  have e1 : phi (l.getD j 0) = f j := (hs j (by omega)).trans m1
  have e2 : phi (l.getD (j + L) 0) = f (j + L) := (hs (j + L) h2).trans m2
  rw [vec_set (by rw [List.length_set, hp.1]; omega), mixB_step f hL h0 h1]
  by_cases c : p = j
  · rw [if_neg (by omega), if_pos c, vec_set (by rw [hp.1]; omega), if_pos c, hv, e1, e2]
  · rw [if_neg c]
    by_cases d : p = j + L
    · rw [if_pos d, if_pos d, hu, e1, e2, hz]
    · rw [if_neg d, if_neg d, vec_set (by rw [hp.1]; omega), if_neg c]; exact hs p hp'
theorem back_pair (x y z : Int) : phi ((8380417 - z) * ((x - y + 8380417) % 8380417) % 8380417) = phi z * (phi y - phi x) ∧ phi ((x + y) % 8380417) = phi x + phi y := by
  rw [phi_rem, phi_rem, phi_mul, phi_rem, phi_add, phi_sub, phi_add, phi_sub, phi_q]
  exact ⟨by grind, rfl⟩
/-- m steps of the way back are done -/
def bl : Nat → V → V
  | 0, f => f
  | m + 1, f => backL (2 ^ m) (bl m f)
theorem bl_all (f : V) (p : Nat) : 8347681 * bl 8 f p = vBack f p := rfl

/-- the first k numbers times 8347681 -/
def MixS (f : V) (k : Nat) : V := fun p => if p < k then 8347681 * f p else f p
theorem scale_step {f : V} {k : Nat} {l : List Int} (hk : k < 256) (hp : IsPoly l) (hs : Same (vec l) (MixS f k)) {x : Int} (ox : okN x) (hx : phi x = 8347681 * phi (l.getD k 0)) :
    IsPoly (l.set k x) ∧ Same (vec (l.set k x)) (MixS f (k + 1)) := by
  refine ⟨set_poly hp _ ox, fun p hp' => ?_⟩
  have e : phi (l.getD k 0) = f k := (hs k hk).trans (by unfold MixS; rw [if_neg (by omega)])
  rw [vec_set (by rw [hp.1]; omega)]
  unfold MixS
  by_cases c : p = k
  · subst c; rw [if_pos rfl, if_pos (by omega), hx, e]
  · rw [if_neg c]
    have := hs p hp'
    unfold MixS at this
    rw [this]
    by_cases d : p < k
    · rw [if_pos d, if_pos (by omega)]
    · rw [if_neg d, if_neg (by omega)]
theorem phi_8347681 (x : Int) : phi (x * 8347681 % 8380417) = 8347681 * phi x := by
  rw [phi_rem, phi_mul, show phi 8347681 = 8347681 by decide]; grind
theorem times_at (f g : V) (k : Nat) {a c : Int} (ha : phi a = f k) (hc : phi c = g k) : phi (a * c % 8380417) = vTimes f g k := by
  rw [phi_rem, phi_mul, ha, hc]; rfl
end Go.Proofs.Ytneopnlklhcopaa.Ring
