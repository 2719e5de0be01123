/- Polys modulo 8380417: the product that is carried back is the product where the 256-th power of the unknown is -1. -/
import Derived.Test.YtneopnlklhcopaaPolyB
namespace Go.Proofs.Ytneopnlklhcopaa.Ring

/-- what a block's last number is turned by: the i-th of all blocks -/
def gam (i : Nat) : F := if i % 2 = 0 then zr (i / 2) else 0 - zr (i / 2)
/-- times the unknown, in blocks of 2 L numbers -/
def shL (L : Nat) (f : V) : V := fun p => if p % (2 * L) = 0 then gam (128 / L + p / (2 * L)) * f (p + 2 * L - 1) else f (p - 1)
/-- times the unknown -/
def vX (f : V) : V := fun p => if p = 0 then 0 - f 255 else f (p - 1)
/-- times the unknown, place by place -/
def vX2 (f : V) : V := fun p => zeta p * f p

theorem gam_square (i : Nat) (h0 : 1 ≤ i) (h1 : i ≤ 255) : zr i * zr i = gam i := by
  have := List.all_eq_true.mp square_all (i - 1) (List.mem_range.mpr (by omega))
  rw [show i - 1 + 1 = i by omega, beq_iff_eq] at this
  exact this
theorem gam_zeta (b : Nat) (h : b < 256) : zeta b = gam (256 + b) := by
  have := List.all_eq_true.mp zeta_all b (List.mem_range.mpr h)
  rw [beq_iff_eq] at this
  rw [this]; unfold gam
  rw [show (256 + b) % 2 = b % 2 by omega, show (256 + b) / 2 = 128 + b / 2 by omega]
theorem gam_even (i : Nat) : gam (2 * i) = zr i := by unfold gam; rw [if_pos (by omega), show 2 * i / 2 = i by omega]
theorem gam_odd (i : Nat) : gam (2 * i + 1) = 0 - zr i := by unfold gam; rw [if_neg (by omega), show (2 * i + 1) / 2 = i by omega]
theorem gam_one : gam 1 = 8380416 := by decide +kernel

/-- a step of the way over goes along with the unknown: L is 2 M -/
theorem over_sh (M : Nat) (hL : Lev (2 * M)) (hM : 1 ≤ M) (f : V) : Same (overL (2 * M) (shL (2 * M) f)) (shL M (overL (2 * M) f)) := by
  intro p hp
  have hq := gam_square (128 / (2 * M) + p / (2 * (2 * M))) (by rcases hL with h | h | h | h | h | h | h | h <;> rw [h] <;> omega) (by rcases hL with h | h | h | h | h | h | h | h <;> rw [h] <;> omega)
  have hM' : M = 1 ∨ M = 2 ∨ M = 4 ∨ M = 8 ∨ M = 16 ∨ M = 32 ∨ M = 64 := by unfold Lev at hL; omega
  have i2 : 128 / M = 2 * (128 / (2 * M)) := by rcases hM' with rfl | rfl | rfl | rfl | rfl | rfl | rfl <;> rfl
  by_cases c : p % (2 * (2 * M)) < 2 * M
  · by_cases d : p % (2 * M) = 0
    · have e1 : p % (2 * (2 * M)) = 0 := by rcases hM' with rfl | rfl | rfl | rfl | rfl | rfl | rfl <;> omega
      have e2 : ¬ (p + 2 * M) % (2 * (2 * M)) = 0 := by rcases hM' with rfl | rfl | rfl | rfl | rfl | rfl | rfl <;> omega
      have e3 : 128 / M + p / (2 * M) = 2 * (128 / (2 * M) + p / (2 * (2 * M))) := by rcases hM' with rfl | rfl | rfl | rfl | rfl | rfl | rfl <;> omega
      have e4 : (p + 2 * M - 1) % (2 * (2 * M)) < 2 * M := by rcases hM' with rfl | rfl | rfl | rfl | rfl | rfl | rfl <;> omega
      have e5 : (p + 2 * M - 1) / (2 * (2 * M)) = p / (2 * (2 * M)) := by rcases hM' with rfl | rfl | rfl | rfl | rfl | rfl | rfl <;> omega
      have e6 : p + 2 * M - 1 + 2 * M = p + 2 * (2 * M) - 1 := by omega
      unfold overL shL; dsimp only
      rw [if_pos c, if_pos d, if_pos e1, if_neg e2, e3, gam_even, if_pos e4, e5, e6]
      grind
    · have e1 : ¬ p % (2 * (2 * M)) = 0 := by rcases hM' with rfl | rfl | rfl | rfl | rfl | rfl | rfl <;> omega
      have e2 : ¬ (p + 2 * M) % (2 * (2 * M)) = 0 := by rcases hM' with rfl | rfl | rfl | rfl | rfl | rfl | rfl <;> omega
      have e4 : (p - 1) % (2 * (2 * M)) < 2 * M := by rcases hM' with rfl | rfl | rfl | rfl | rfl | rfl | rfl <;> omega
      have e5 : (p - 1) / (2 * (2 * M)) = p / (2 * (2 * M)) := by rcases hM' with rfl | rfl | rfl | rfl | rfl | rfl | rfl <;> omega
      have e6 : p - 1 + 2 * M = p + 2 * M - 1 := by rcases hM' with rfl | rfl | rfl | rfl | rfl | rfl | rfl <;> omega
      unfold overL shL; dsimp only
      rw [if_pos c, if_neg d, if_neg e1, if_neg e2, if_pos e4, e5, e6]
  · by_cases d : p % (2 * M) = 0
    · have e1 : ¬ p % (2 * (2 * M)) = 0 := by rcases hM' with rfl | rfl | rfl | rfl | rfl | rfl | rfl <;> omega
      have e2 : (p - 2 * M) % (2 * (2 * M)) = 0 := by rcases hM' with rfl | rfl | rfl | rfl | rfl | rfl | rfl <;> omega
      have e3 : 128 / M + p / (2 * M) = 2 * (128 / (2 * M) + p / (2 * (2 * M))) + 1 := by rcases hM' with rfl | rfl | rfl | rfl | rfl | rfl | rfl <;> omega
      have e4 : ¬ (p + 2 * M - 1) % (2 * (2 * M)) < 2 * M := by rcases hM' with rfl | rfl | rfl | rfl | rfl | rfl | rfl <;> omega
      have e5 : (p + 2 * M - 1) / (2 * (2 * M)) = p / (2 * (2 * M)) := by rcases hM' with rfl | rfl | rfl | rfl | rfl | rfl | rfl <;> omega
      have e6 : p + 2 * M - 1 - 2 * M = p - 1 := by omega
      have e7 : (p - 2 * M) / (2 * (2 * M)) = p / (2 * (2 * M)) := by rcases hM' with rfl | rfl | rfl | rfl | rfl | rfl | rfl <;> omega
      have e8 : p - 2 * M + 2 * (2 * M) - 1 = p + 2 * M - 1 := by rcases hM' with rfl | rfl | rfl | rfl | rfl | rfl | rfl <;> omega
      unfold overL shL; dsimp only
      rw [if_neg c, if_pos d, if_neg e1, if_pos e2, e3, gam_odd, if_neg e4, e5, e6, e7, e8]
      grind
    · have e1 : ¬ p % (2 * (2 * M)) = 0 := by rcases hM' with rfl | rfl | rfl | rfl | rfl | rfl | rfl <;> omega
      have e2 : ¬ (p - 2 * M) % (2 * (2 * M)) = 0 := by rcases hM' with rfl | rfl | rfl | rfl | rfl | rfl | rfl <;> omega
      have e4 : ¬ (p - 1) % (2 * (2 * M)) < 2 * M := by rcases hM' with rfl | rfl | rfl | rfl | rfl | rfl | rfl <;> omega
      have e5 : (p - 1) / (2 * (2 * M)) = p / (2 * (2 * M)) := by rcases hM' with rfl | rfl | rfl | rfl | rfl | rfl | rfl <;> omega
      have e6 : p - 2 * M - 1 = p - 1 - 2 * M := by omega
      unfold overL shL; dsimp only
      rw [if_neg c, if_neg d, if_neg e1, if_neg e2, if_neg e4, e5, e6]

theorem vX_sh (f : V) : Same (vX f) (shL 128 f) := by
  intro p hp
  unfold vX shL
  by_cases h : p = 0
  · subst h
    rw [if_pos rfl, if_pos (by omega)]
    show 0 - f 255 = gam 1 * f 255
    rw [gam_one]; grind
  · rw [if_neg h, if_neg (by omega)]
theorem vX2_sh (f : V) : Same (overL 1 (shL 1 f)) (vX2 (overL 1 f)) := by
  intro p hp
  have hq := gam_square (128 + p / 2) (by omega) (by omega)
  have hz : zeta p = gam (256 + p) := gam_zeta p hp
  unfold vX2
  rw [hz]
  by_cases h : p % 2 = 0
  · have eg : gam (256 + p) = zr (128 + p / 2) := by rw [show 256 + p = 2 * (128 + p / 2) by omega, gam_even]
    have c1 : p % (2 * 1) < 1 := by omega
    have c2 : p % (2 * 1) = 0 := by omega
    have c3 : ¬ (p + 1) % (2 * 1) = 0 := by omega
    rw [eg]
    unfold overL shL
    rw [if_pos c1, if_pos c2, if_neg c3, if_pos c1]
    rw [show 128 / 1 + p / (2 * 1) = 128 + p / 2 by omega, show p + 2 * 1 - 1 = p + 1 by omega, show p + 1 - 1 = p by omega]
    grind
  · have eg : gam (256 + p) = 0 - zr (128 + p / 2) := by rw [show 256 + p = 2 * (128 + p / 2) + 1 by omega, gam_odd]
    have c1 : ¬ p % (2 * 1) < 1 := by omega
    have c2 : ¬ p % (2 * 1) = 0 := by omega
    have c3 : (p - 1) % (2 * 1) = 0 := by omega
    rw [eg]
    unfold overL shL
    rw [if_neg c1, if_pos c3, if_neg c2, if_neg c1]
    rw [show 128 / 1 + p / (2 * 1) = 128 + p / 2 by omega, show 128 / 1 + (p - 1) / (2 * 1) = 128 + p / 2 by omega, show p - 1 + 2 * 1 - 1 = p by omega]
    grind
theorem over_X (f : V) : Same (vOver (vX f)) (vX2 (vOver f)) := by
  have h0 : Same (vOver (vX f)) (vOver (shL 128 f)) := vOver_same (vX_sh f)
  refine h0.trans ?_
  unfold vOver
  have l : ∀ L, L = 1 ∨ L = 2 ∨ L = 4 ∨ L = 8 ∨ L = 16 ∨ L = 32 ∨ L = 64 ∨ L = 128 → Lev L := fun _ h => h
  have s1 := over_sh 64 (l _ (by omega)) (by omega) f
  have s2 := (overL_same (L := 64) (l _ (by omega)) s1).trans (over_sh 32 (l _ (by omega)) (by omega) _)
  have s3 := (overL_same (L := 32) (l _ (by omega)) s2).trans (over_sh 16 (l _ (by omega)) (by omega) _)
  have s4 := (overL_same (L := 16) (l _ (by omega)) s3).trans (over_sh 8 (l _ (by omega)) (by omega) _)
  have s5 := (overL_same (L := 8) (l _ (by omega)) s4).trans (over_sh 4 (l _ (by omega)) (by omega) _)
  have s6 := (overL_same (L := 4) (l _ (by omega)) s5).trans (over_sh 2 (l _ (by omega)) (by omega) _)
  have s7 := (overL_same (L := 2) (l _ (by omega)) s6).trans (over_sh 1 (l _ (by omega)) (by omega) _)
  exact (overL_same (L := 1) (l _ (by omega)) s7).trans (vX2_sh _)
end Go.Proofs.Ytneopnlklhcopaa.Ring
