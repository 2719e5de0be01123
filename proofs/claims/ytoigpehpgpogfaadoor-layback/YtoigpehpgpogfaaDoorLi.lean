/- There and back: numbers within bounds that were laid are told again. Nothing of the program. -/
import Derived.Test.YtoigpehpgpogfaaDoorLa
namespace Go.Proofs.YtoigpehpgpogfaaDoor.Bit
open Go

theorem near_full {a b : Int} {f : List Int} (h : NearOk a b f) : (nearI a b f).length = 32 * widthI a b := by
  have hf := less_fit h
  have hw := width_le a b
  rw [near_yes h, packI_yes h.1 (by omega) hf, int_len, packN_len, nat_len, lessL_len, h.2.1.1]
  omega
theorem unpack_less {a b : Int} {f : List Int} (h : NearOk a b f) : unpackI (widthI a b) (nearI a b f) = lessL b f := by
  have hf := less_fit h
  have hw := width_le a b
  have h1 := h.1
  rw [near_yes h, packI_yes h1 (by omega) hf, unpackI_yes _ h1 (by omega), nat_int]
  have hlen : (unpackN (widthI a b) (packN (widthI a b) (nat (lessL b f)))).length = 256 := by
    rw [unpackN_len, packN_len, nat_len, lessL_len, h.2.1.1]
    have : 8 * ((widthI a b * 256 + 7) / 8) = 256 * widthI a b := by omega
    rw [this, Nat.mul_div_cancel _ (by omega)]
  have hl : (nat (lessL b f)).length = 256 := by rw [nat_len, lessL_len, h.2.1.1]
  have e : unpackN (widthI a b) (packN (widthI a b) (nat (lessL b f))) = nat (lessL b f) := by
    apply list_ext (by rw [hlen, hl])
    intro i hi
    exact unpack_pack (by omega) hf.nat hi
  rw [e, int_nat fun i hi => (hf i hi).1]
theorem far_less {b : Int} {f : List Int} (hp : IsPoly f) : farL b (lessL b f) = f := by
  apply List.ext_getElem?
  intro k
  by_cases hk : k < f.length
  · have h1 : k < (farL b (lessL b f)).length := by rw [farL_len, lessL_len]; exact hk
    have e := farL_at b (lessL b f) (k := k) (by rw [lessL_len]; exact hk)
    rw [lessL_at b f hk] at e
    have o := hp.2 k (by have := hp.1; omega)
    rw [List.getD_eq_getElem?_getD, List.getElem?_eq_getElem h1] at e
    rw [List.getD_eq_getElem?_getD, List.getElem?_eq_getElem hk] at e o
    rw [List.getElem?_eq_getElem h1, List.getElem?_eq_getElem hk]
    simp only [Option.getD_some] at e o
    congr 1
    rw [e]
    unfold okN at o
    unfold about
    split <;> omega
  · rw [List.getElem?_eq_none (by rw [farL_len, lessL_len]; omega), List.getElem?_eq_none (by omega)]
theorem far_near {a b : Int} {f : List Int} (h : NearOk a b f) : farI a b (nearI a b f) = f := by
  rw [far_yes ⟨h.1, near_full h⟩, unpack_less h, far_less h.2.1]
theorem about_in {a b y : Int} (hb : Bounds a b) (h0 : 0 ≤ y) (h1 : y ≤ a + b) : okN ((y - a + 8380417) % 8380417) ∧ -a ≤ about b ((y - a + 8380417) % 8380417) := by
  unfold Bounds at hb
  unfold okN about
  refine ⟨by omega, ?_⟩
  split <;> omega
theorem out_not {a b : Int} {f : List Int} {j : Nat} (hb : Bounds a b) (hj : j < 256) (hl : f.length = 256) : ¬ NearOk a b (f.set j (b + 1)) := fun h => by
  have := h.2.2 j hj
  rw [List.getD_eq_getElem?_getD, List.getElem?_set_self (by omega)] at this
  simp only [Option.getD_some] at this
  unfold about at this
  unfold Bounds at hb
  rw [if_pos (by omega)] at this
  omega
theorem in_set {a b : Int} {f : List Int} {k : Nat} {x : Int} (h : InTo a b f k) (hl : k < f.length) (hx : -a ≤ about b x) : InTo a b (f.set k x) (k + 1) := fun j hj => by
  by_cases e : j = k
  · subst e
    rw [List.getD_eq_getElem?_getD, List.getElem?_set_self hl]
    exact hx
  · rw [List.getD_eq_getElem?_getD, List.getElem?_set_ne (by omega), ← List.getD_eq_getElem?_getD]
    exact h j (by omega)
theorem ok_set {l : List Int} (h : ∀ k, okN (l.getD k 0)) (i : Nat) {x : Int} (hx : okN x) : ∀ k, okN ((l.set i x).getD k 0) := by
  intro k
  by_cases e : k = i
  · subst e
    by_cases hk : k < l.length
    · rw [List.getD_eq_getElem?_getD, List.getElem?_set_self hk]; exact hx
    · rw [List.getD_eq_getElem?_getD, List.getElem?_eq_none (by rw [List.length_set]; omega)]; unfold okN; simp
  · rw [List.getD_eq_getElem?_getD, List.getElem?_set_ne (by omega), ← List.getD_eq_getElem?_getD]; exact h k
theorem width_pos {a b : Int} (hb : Bounds a b) (h : a + b ≠ 0) : 1 ≤ widthI a b := by
  rw [width_yes hb]
  unfold Bounds at hb
  exact blen_pos (by omega)
end Go.Proofs.YtoigpehpgpogfaaDoor.Bit
