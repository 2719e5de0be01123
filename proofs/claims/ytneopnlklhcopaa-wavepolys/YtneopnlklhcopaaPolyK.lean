/- Polys: the product by hand is the product that is carried back. -/
import Derived.Test.YtneopnlklhcopaaPolyJ
namespace Go.Proofs.Ytneopnlklhcopaa.Ring

/-- the sum of the first n turns of f, each times its number -/
def pSum (f c : V) : Nat → V
  | 0 => oV
  | n + 1 => vAdd (pSum f c n) (vMul (c n) (tn n f))
def cut (c : V) (n : Nat) : V := fun p => if p < n then c p else 0
theorem cut_zero (c : V) : cut c 0 = oV := by funext p; unfold cut oV; rw [if_neg (by omega)]
theorem cut_succ (c : V) (n : Nat) : cut c (n + 1) = vAdd (cut c n) (vMul (c n) (uV n)) := by
  funext p
  show (if p < n + 1 then c p else 0) = (if p < n then c p else 0) + c n * (if p = n then 1 else 0)
  by_cases h : p < n
  · rw [if_pos (by omega), if_pos h, if_neg (by omega)]; grind
  · by_cases e : p = n
    · subst e; rw [if_pos (by omega), if_neg h, if_pos rfl]; grind
    · rw [if_neg (by omega), if_neg h, if_neg e]; grind
theorem vMul_same {f g : V} (c : F) (h : Same f g) : Same (vMul c f) (vMul c g) := fun p hp => by unfold vMul; rw [h p hp]
theorem sum_over (f c : V) (n : Nat) (hn : n ≤ 256) : Same (vTimes (vOver f) (vOver (cut c n))) (vOver (pSum f c n)) := by
  induction n with
  | zero =>
    rw [cut_zero]
    exact ((vTimes_same (Same.refl _) over_zero).trans (times_zero _)).trans over_zero.symm
  | succ n ih =>
    rw [cut_succ, vOver_add, vOver_mul]
    refine (vTimes_add _ _ _).trans ?_
    show Same _ (vOver (vAdd (pSum f c n) (vMul (c n) (tn n f))))
    rw [vOver_add, vOver_mul]
    refine vAdd_same (ih (by omega)) ?_
    refine (vTimes_mul _ _ _).trans (vMul_same _ ?_)
    exact (over_turned n (by omega) f).trans (vOver_same (vXn_tn n (by omega) f))
theorem product {l m n : List Int} (h : IsPoly l) (k : IsPoly m) (j : IsPoly n) (hs : Same (vec n) (pSum (vec l) (vec m) 256)) : one vBack (two vTimes (one vOver l) (one vOver m)) = n := by
  have ht := two_poly (F := vTimes) (one_poly (F := vOver) h) (one_poly (F := vOver) k)
  refine list_eq (one_poly ht) j ?_
  refine (vec_one ht).trans ?_
  refine (vBack_same ((vec_two (one_poly h) (one_poly k)).trans (vTimes_same (vec_one h) (vec_one k)))).trans ?_
  have hc : Same (vec m) (cut (vec m) 256) := fun p hp => by unfold cut; rw [if_pos hp]
  refine (vBack_same ((vTimes_same (Same.refl _) (vOver_same hc)).trans (sum_over (vec l) (vec m) 256 (Nat.le_refl _)))).trans ?_
  exact (back_over _).trans hs.symm
/-- of the i-th turn the first k numbers are added -/
def MixP (f c : V) (i k : Nat) : V := fun p => if was i p < k then pSum f c (i + 1) p else pSum f c i p
theorem mixP_start (f c : V) (i : Nat) : MixP f c i 0 = pSum f c i := by funext p; unfold MixP; rw [if_neg (by omega)]
theorem mixP_end (f c : V) (i : Nat) : Same (MixP f c i 256) (pSum f c (i + 1)) := fun p _ => by unfold MixP; rw [if_pos (by unfold was; omega)]
theorem mixP_none (f c : V) (i : Nat) (h : c i = 0) : Same (pSum f c i) (pSum f c (i + 1)) := fun p _ => by
  show _ = pSum f c i p + c i * tn i f p
  rw [h]; grind
theorem prod_step {f c : V} {i k : Nat} {l : List Int} (hi : i < 256) (hk : k < 256) (hp : IsPoly l) (hs : Same (vec l) (MixP f c i k)) {x : Int} (ox : okN x)
    (hx : phi x = phi (l.getD ((i + k) % 256) 0) + c i * (if (k + i) / 256 % 2 = 1 then 0 - f k else f k)) : IsPoly (l.set ((i + k) % 256) x) ∧ Same (vec (l.set ((i + k) % 256) x)) (MixP f c i (k + 1)) := by
  refine ⟨set_poly hp _ ox, fun p hp' => ?_⟩
  rw [vec_set (by rw [hp.1]; omega)]
  unfold MixP
  by_cases e : p = (i + k) % 256
  · have ew : was i p = k := by unfold was; omega
    have e0 : phi (l.getD ((i + k) % 256) 0) = pSum f c i p := by
      have := hs ((i + k) % 256) (by omega)
      unfold vec MixP at this
      rw [this, if_neg (by rw [← e]; omega), ← e]
    rw [if_pos e, if_pos (by omega), hx, e0]
    show _ = pSum f c i p + c i * tn i f p
    unfold tn
    rw [ew]
  · have ew : was i p ≠ k := by unfold was; omega
    rw [if_neg e, hs p hp']
    unfold MixP
    by_cases d : was i p < k
    · rw [if_pos d, if_pos (by omega)]
    · rw [if_neg d, if_neg (by omega)]
theorem prod_lo {f c : V} {l : List Int} {i k : Nat} {X Y Z : Int} (h : i + k < 256) (hX : phi X = f k) (hY : phi Y = c i) (hZ : Z = l.getD ((i + k) % 256) 0) :
    phi (rAdd Z (rMul X Y)) = phi (l.getD ((i + k) % 256) 0) + c i * (if (k + i) / 256 % 2 = 1 then 0 - f k else f k) := by
  rw [phi_rAdd, phi_rMul, hX, hY, hZ, if_neg (by omega)]; grind
theorem prod_hi {f c : V} {l : List Int} {i k : Nat} {X Y Z : Int} (h : ¬ i + k < 256) (hi : i < 256) (hk : k < 256) (hX : phi X = f k) (hY : phi Y = c i) (hZ : Z = l.getD ((i + k) % 256) 0) :
    phi (rSub Z (rMul X Y)) = phi (l.getD ((i + k) % 256) 0) + c i * (if (k + i) / 256 % 2 = 1 then 0 - f k else f k) := by
  rw [phi_rSub, phi_rMul, hX, hY, hZ, if_pos (by omega)]; grind
end Go.Proofs.Ytneopnlklhcopaa.Ring
