/- Polys: moved on by places, the last ones turned round. -/
import Derived.Test.YtneopnlklhcopaaPolyH
namespace Go.Proofs.Ytneopnlklhcopaa.Ring

/-- where the number at p stood, m places ahead -/
def was (m p : Nat) : Nat := (p + 768 - m) % 256
def tn (m : Nat) (f : V) : V := fun p => if (was m p + m) / 256 % 2 = 1 then 0 - f (was m p) else f (was m p)
theorem tn_zero (f : V) : Same (tn 0 f) f := fun p hp => by
  have e : was 0 p = p := by unfold was; omega
  unfold tn
  rw [e, if_neg (by omega)]
theorem tn_succ (m : Nat) (hm : m < 767) (f : V) : Same (vX (tn m f)) (tn (m + 1) f) := fun p hp => by
  unfold vX tn
  by_cases c : p = 0
  · subst c
    have e : was m 255 = was (m + 1) 0 := by unfold was; omega
    have e2 : (was (m + 1) 0 + (m + 1)) / 256 = (was (m + 1) 0 + m) / 256 + 1 := by unfold was; omega
    rw [if_pos rfl, e, e2]
    by_cases d : (was (m + 1) 0 + m) / 256 % 2 = 1
    · rw [if_pos d, if_neg (by omega)]; grind
    · rw [if_neg d, if_pos (by omega)]
  · have e : was m (p - 1) = was (m + 1) p := by unfold was; omega
    have e2 : (was (m + 1) p + (m + 1)) / 256 = (was (m + 1) p + m) / 256 := by unfold was; omega
    rw [if_neg c, e, e2]
theorem vXn_tn (m : Nat) (hm : m ≤ 767) (f : V) : Same (vXn m f) (tn m f) := by
  induction m with
  | zero => exact (tn_zero f).symm
  | succ m ih => exact (vX_same (ih (by omega))).trans (tn_succ m (by omega) f)
def oV : V := fun _ => 0
theorem tn_odd (m : Nat) (hm : m < 600) (h : m / 256 % 2 = 1) (f : V) : Same (tn m f) (vSub oV (tn (m % 256) f)) := fun p hp => by
  have e : was m p = was (m % 256) p := by unfold was; omega
  have e2 : (was (m % 256) p + m) / 256 = (was (m % 256) p + m % 256) / 256 + m / 256 := by unfold was; omega
  unfold vSub oV tn
  rw [e, e2]
  by_cases d : (was (m % 256) p + m % 256) / 256 % 2 = 1
  · rw [if_neg (by omega), if_pos d]; grind
  · rw [if_pos (by omega), if_neg d]
theorem tn_even (m : Nat) (hm : m < 600) (h : ¬ m / 256 % 2 = 1) (f : V) : Same (tn m f) (tn (m % 256) f) := fun p hp => by
  have e : was m p = was (m % 256) p := by unfold was; omega
  have e2 : (was (m % 256) p + m) / 256 = (was (m % 256) p + m % 256) / 256 + m / 256 := by unfold was; omega
  unfold tn
  rw [e, e2]
  by_cases d : (was (m % 256) p + m % 256) / 256 % 2 = 1
  · rw [if_pos (by omega), if_pos d]
  · rw [if_neg (by omega), if_neg d]
theorem over_zero : Same (vOver oV) oV := by
  have e : oV = vMul 0 oV := by funext p; unfold vMul oV; grind
  have h := vOver_mul 0 oV
  rw [← e] at h
  rw [h]
  intro p _; unfold vMul oV; grind
theorem times_zero (f : V) : Same (vTimes f oV) oV := fun p _ => by unfold vTimes oV; grind
def zeroL : List Int := List.replicate 256 0
theorem zero_len : zeroL.length = 256 := List.length_replicate
theorem zero_at (k : Nat) : zeroL.getD k 0 = 0 := by
  unfold zeroL
  rw [List.getD_eq_getElem?_getD, List.getElem?_replicate]; split <;> rfl
theorem zero_poly : IsPoly zeroL := ⟨zero_len, fun k _ => by rw [zero_at]; unfold okN; omega⟩
theorem vec_zero : Same (vec zeroL) oV := fun p _ => by unfold vec; rw [zero_at]; exact phi_zero
theorem turns_odd {l m : List Int} (n : Nat) (hn : n < 600) (h : n / 256 % 2 = 1) (hl : IsPoly l) (hm : IsPoly m) (hs : Same (vec m) (tn n (vec l))) :
    two vTimes (one vOver l) (two vSub zeroL (one vOver (unitL 256 (n % 256)))) = one vOver m := by
  have hu := unit_poly (n % 256)
  refine list_eq (two_poly (one_poly hl) (two_poly zero_poly (one_poly hu))) (one_poly hm) ?_
  refine (vec_two (one_poly hl) (two_poly zero_poly (one_poly hu))).trans ?_
  have z1 : Same (vec (two vSub zeroL (one vOver (unitL 256 (n % 256))))) (vSub oV (vOver (uV (n % 256)))) :=
    (vec_two zero_poly (one_poly hu)).trans (vSub_same vec_zero ((vec_one hu).trans (vOver_same (vec_unit _ (by omega)))))
  refine (vTimes_same (vec_one hl) z1).trans ?_
  refine (vTimes_sub _ _ _).trans ?_
  refine (vSub_same (times_zero _) (over_turned (n % 256) (by omega) (vec l))).trans ?_
  refine Same.trans ?_ (vec_one hm).symm
  refine Same.trans ?_ (vOver_same ((hs.trans (tn_odd n hn h _)).trans (vSub_same (Same.refl _) (vXn_tn (n % 256) (by omega) _).symm))).symm
  rw [vOver_sub]
  exact vSub_same over_zero.symm (Same.refl _)
theorem turns_even {l m : List Int} (n : Nat) (hn : n < 600) (h : ¬ n / 256 % 2 = 1) (hl : IsPoly l) (hm : IsPoly m) (hs : Same (vec m) (tn n (vec l))) :
    two vTimes (one vOver l) (one vOver (unitL 256 (n % 256))) = one vOver m := by
  have hu := unit_poly (n % 256)
  refine list_eq (two_poly (one_poly hl) (one_poly hu)) (one_poly hm) ?_
  refine (vec_two (one_poly hl) (one_poly hu)).trans ?_
  have z1 : Same (vec (one vOver (unitL 256 (n % 256)))) (vOver (uV (n % 256))) := (vec_one hu).trans (vOver_same (vec_unit _ (by omega)))
  refine (vTimes_same (vec_one hl) z1).trans ?_
  refine (over_turned (n % 256) (by omega) (vec l)).trans ?_
  refine Same.trans ?_ (vec_one hm).symm
  exact (vOver_same ((hs.trans (tn_even n hn h _)).trans (vXn_tn (n % 256) (by omega) _).symm)).symm

/-- the first i numbers are moved -/
def MixT (m : Nat) (f : V) (i : Nat) : V := fun p => if was m p < i then tn m f p else 0
theorem turn_step {m i : Nat} {f : V} {l : List Int} (hm : m < 600) (hi : i < 256) (hp : IsPoly l) (hs : Same (vec l) (MixT m f i)) {x : Int} (ox : okN x)
    (hx : phi x = if (i + m) / 256 % 2 = 1 then 0 - f i else f i) : IsPoly (l.set ((i + m) % 256) x) ∧ Same (vec (l.set ((i + m) % 256) x)) (MixT m f (i + 1)) := by
  refine ⟨set_poly hp _ ox, fun p hp' => ?_⟩
  rw [vec_set (by rw [hp.1]; omega)]
  unfold MixT
  by_cases c : p = (i + m) % 256
  · have e : was m p = i := by unfold was; omega
    rw [if_pos c, if_pos (by omega), hx]
    unfold tn
    rw [e]
  · have e : was m p ≠ i := by unfold was; omega
    rw [if_neg c, hs p hp']
    unfold MixT
    by_cases d : was m p < i
    · rw [if_pos d, if_pos (by omega)]
    · rw [if_neg d, if_neg (by omega)]
theorem turn_start (m : Nat) (f : V) : Same (vec zeroL) (MixT m f 0) := fun p hp => by
  rw [vec_zero p hp]; unfold MixT oV; rw [if_neg (by omega)]
theorem turn_end (m : Nat) (f : V) : Same (MixT m f 256) (tn m f) := fun p _ => by
  unfold MixT; rw [if_pos (by unfold was; omega)]
end Go.Proofs.Ytneopnlklhcopaa.Ring
