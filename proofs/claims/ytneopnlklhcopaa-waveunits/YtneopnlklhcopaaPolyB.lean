/- Polys modulo 8380417: there and back it is what it was; sums are carried over. -/
import Derived.Test.YtneopnlklhcopaaPolyA
namespace Go.Proofs.Ytneopnlklhcopaa.Ring

theorem log_lev (i : Nat) (L b : Nat) (hL : Lev L) (hb : b < 128 / L) (h : i = 128 / L + b) : 2 ^ i.log2 = 128 / L := by
  subst h
  have e : (128 / L + b).log2 = (128 / L).log2 := by
    rcases hL with rfl | rfl | rfl | rfl | rfl | rfl | rfl | rfl
    all_goals
      simp only [Nat.reduceDiv] at hb ⊢
      rw [Nat.log2_eq_iff (by omega)]
      decide +revert
  rw [e]
  rcases hL with rfl | rfl | rfl | rfl | rfl | rfl | rfl | rfl <;> decide
theorem pair (L b : Nat) (hL : Lev L) (hb : b < 128 / L) : zr (128 / L + b) * zr (256 / L - 1 - b) = 8380416 := by
  have hl := log_lev _ L b hL hb rfl
  have h1 : 128 / L + b - 1 + 1 = 128 / L + b := by rcases hL with rfl | rfl | rfl | rfl | rfl | rfl | rfl | rfl <;> omega
  have h2 : 128 / L + b - 1 < 255 := by rcases hL with rfl | rfl | rfl | rfl | rfl | rfl | rfl | rfl <;> omega
  have := List.all_eq_true.mp pair_all (128 / L + b - 1) (List.mem_range.mpr h2)
  rw [h1, hl, beq_iff_eq] at this
  have h3 : 3 * (128 / L) - 1 - (128 / L + b) = 256 / L - 1 - b := by rcases hL with rfl | rfl | rfl | rfl | rfl | rfl | rfl | rfl <;> omega
  rwa [h3] at this

theorem overL_same {L : Nat} (hL : Lev L) {f g : V} (h : Same f g) : Same (overL L f) (overL L g) := by
  intro p hp
  unfold overL
  by_cases c : p % (2 * L) < L
  · rw [if_pos c, if_pos c, h p hp, h (p + L) (by rcases hL with rfl | rfl | rfl | rfl | rfl | rfl | rfl | rfl <;> omega)]
  · rw [if_neg c, if_neg c, h p hp, h (p - L) (by omega)]
theorem backL_same {L : Nat} (hL : Lev L) {f g : V} (h : Same f g) : Same (backL L f) (backL L g) := by
  intro p hp
  unfold backL
  by_cases c : p % (2 * L) < L
  · rw [if_pos c, if_pos c, h p hp, h (p + L) (by rcases hL with rfl | rfl | rfl | rfl | rfl | rfl | rfl | rfl <;> omega)]
  · rw [if_neg c, if_neg c, h p hp, h (p - L) (by omega)]
theorem overL_mul (L : Nat) (c : F) (f : V) : overL L (vMul c f) = vMul c (overL L f) := by
  funext p; unfold overL vMul; split <;> grind
theorem backL_mul (L : Nat) (c : F) (f : V) : backL L (vMul c f) = vMul c (backL L f) := by
  funext p; unfold backL vMul; split <;> grind
theorem overL_add (L : Nat) (f g : V) : overL L (vAdd f g) = vAdd (overL L f) (overL L g) := by
  funext p; unfold overL vAdd; split <;> grind
theorem overL_sub (L : Nat) (f g : V) : overL L (vSub f g) = vSub (overL L f) (overL L g) := by
  funext p; unfold overL vSub; split <;> grind
theorem lower {L p : Nat} (hL : Lev L) (c : p % (2 * L) < L) : ¬ (p + L) % (2 * L) < L ∧ (p + L) / (2 * L) = p / (2 * L) ∧ p + L - L = p := by
  rcases hL with rfl | rfl | rfl | rfl | rfl | rfl | rfl | rfl <;> omega
theorem upper {L p : Nat} (hL : Lev L) (c : ¬ p % (2 * L) < L) : (p - L) % (2 * L) < L ∧ (p - L) / (2 * L) = p / (2 * L) ∧ p - L + L = p := by
  rcases hL with rfl | rfl | rfl | rfl | rfl | rfl | rfl | rfl <;> omega
theorem block {L p : Nat} (hL : Lev L) (hp : p < 256) : p / (2 * L) < 128 / L := by
  rcases hL with rfl | rfl | rfl | rfl | rfl | rfl | rfl | rfl <;> omega
theorem back_over_L {L : Nat} (hL : Lev L) (f : V) : Same (backL L (overL L f)) (vMul 2 f) := by
  intro p hp
  have hz := pair L (p / (2 * L)) hL (block hL hp)
  unfold vMul
  by_cases c : p % (2 * L) < L
  · obtain ⟨c1, c2, c3⟩ := lower hL c
    unfold backL
    rw [if_pos c]
    unfold overL
    rw [if_pos c, if_neg c1, c2, c3]
    grind
  · obtain ⟨c1, c2, c3⟩ := upper hL c
    unfold backL
    rw [if_neg c]
    unfold overL
    rw [if_neg c, if_pos c1, c2, c3]
    grind
theorem over_back_L {L : Nat} (hL : Lev L) (f : V) : Same (overL L (backL L f)) (vMul 2 f) := by
  intro p hp
  have hz := pair L (p / (2 * L)) hL (block hL hp)
  unfold vMul
  by_cases c : p % (2 * L) < L
  · obtain ⟨c1, c2, c3⟩ := lower hL c
    unfold overL
    rw [if_pos c]
    unfold backL
    rw [if_pos c, if_neg c1, c2, c3]
    grind
  · obtain ⟨c1, _, c3⟩ := upper hL c
    unfold overL
    rw [if_neg c]
    unfold backL
    rw [if_neg c, if_pos c1, c3]
    grind

theorem vOver_same {f g : V} (h : Same f g) : Same (vOver f) (vOver g) := by
  unfold vOver
  refine overL_same (by unfold Lev; omega) (overL_same (by unfold Lev; omega) (overL_same (by unfold Lev; omega) (overL_same (by unfold Lev; omega) (overL_same (by unfold Lev; omega) (overL_same (by unfold Lev; omega) (overL_same (by unfold Lev; omega) (overL_same (by unfold Lev; omega) h)))))))
theorem vBack_same {f g : V} (h : Same f g) : Same (vBack f) (vBack g) := by
  unfold vBack
  intro p hp
  have := backL_same (L := 128) (by unfold Lev; omega) (backL_same (L := 64) (by unfold Lev; omega) (backL_same (L := 32) (by unfold Lev; omega) (backL_same (L := 16) (by unfold Lev; omega) (backL_same (L := 8) (by unfold Lev; omega) (backL_same (L := 4) (by unfold Lev; omega) (backL_same (L := 2) (by unfold Lev; omega) (backL_same (L := 1) (by unfold Lev; omega) h)))))))
  show 8347681 * _ = 8347681 * _
  rw [this p hp]
theorem vOver_mul (c : F) (f : V) : vOver (vMul c f) = vMul c (vOver f) := by unfold vOver; simp only [overL_mul]
theorem vOver_add (f g : V) : vOver (vAdd f g) = vAdd (vOver f) (vOver g) := by unfold vOver; simp only [overL_add]
theorem vOver_sub (f g : V) : vOver (vSub f g) = vSub (vOver f) (vOver g) := by unfold vOver; simp only [overL_sub]

theorem bo {L : Nat} (hL : Lev L) {c : F} {f g : V} (h : Same g (vMul c (overL L f))) : Same (backL L g) (vMul (c * 2) f) := by
  refine (backL_same hL h).trans ?_
  rw [backL_mul]
  intro p hp
  have := back_over_L hL f p hp
  unfold vMul at this ⊢
  rw [this]; grind
theorem ob {L : Nat} (hL : Lev L) {c : F} {f g : V} (h : Same g (vMul c (backL L f))) : Same (overL L g) (vMul (c * 2) f) := by
  refine (overL_same hL h).trans ?_
  rw [overL_mul]
  intro p hp
  have := over_back_L hL f p hp
  unfold vMul at this ⊢
  rw [this]; grind
theorem vMul_one (f : V) : Same f (vMul 1 f) := fun p _ => by unfold vMul; grind
theorem back_over (f : V) : Same (vBack (vOver f)) f := by
  have h0 := vMul_one (vOver f)
  have g0 := bo (L := 1) (by unfold Lev; omega) h0
  have h1 := bo (L := 2) (by unfold Lev; omega) g0
  have h2 := bo (L := 4) (by unfold Lev; omega) h1
  have h3 := bo (L := 8) (by unfold Lev; omega) h2
  have h4 := bo (L := 16) (by unfold Lev; omega) h3
  have h5 := bo (L := 32) (by unfold Lev; omega) h4
  have h6 := bo (L := 64) (by unfold Lev; omega) h5
  have h7 := bo (L := 128) (by unfold Lev; omega) h6
  intro p hp
  have := h7 p hp
  unfold vMul at this
  show 8347681 * _ = f p
  rw [this]; grind
theorem over_back (f : V) : Same (vOver (vBack f)) f := by
  have e : vBack f = vMul 8347681 (backL 128 (backL 64 (backL 32 (backL 16 (backL 8 (backL 4 (backL 2 (backL 1 f)))))))) := rfl
  rw [e, vOver_mul]
  have h1 := ob (L := 128) (by unfold Lev; omega) (vMul_one (backL 128 (backL 64 (backL 32 (backL 16 (backL 8 (backL 4 (backL 2 (backL 1 f)))))))))
  have h2 := ob (L := 64) (by unfold Lev; omega) h1
  have h3 := ob (L := 32) (by unfold Lev; omega) h2
  have h4 := ob (L := 16) (by unfold Lev; omega) h3
  have h5 := ob (L := 8) (by unfold Lev; omega) h4
  have h6 := ob (L := 4) (by unfold Lev; omega) h5
  have h7 := ob (L := 2) (by unfold Lev; omega) h6
  have h8 := ob (L := 1) (by unfold Lev; omega) h7
  intro p hp
  have := h8 p hp
  unfold vMul at this
  show 8347681 * _ = f p
  unfold vOver
  rw [this]; grind
end Go.Proofs.Ytneopnlklhcopaa.Ring
