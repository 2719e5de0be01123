/- Contracts: which windows may be, which numbers are fresh, by the program's own code. -/
import Derived.Test.YtlikjchaamimcaaDoorNb
namespace Go.Proofs.YtlikjchaamimcaaDoor
open Go.RowKit Slices

theorem far_iff {u : Nat} (hu : u < 2 ^ 64) (K : Nat) : u / 2 ^ min K 64 = 0 ↔ ∀ i : Nat, i < 64 → (K : Int) ≤ (i : Int) → u.testBit i = false := by
  constructor
  · intro h i h0 hi
    have h1 : u < 2 ^ min K 64 := (Nat.div_eq_zero_iff_lt (Nat.two_pow_pos _)).1 h
    exact Nat.testBit_lt_two_pow (Nat.lt_of_lt_of_le h1 (Nat.pow_le_pow_right (by decide) (by omega)))
  · intro h
    refine Nat.div_eq_of_lt (Nat.lt_pow_two_of_testBit u fun i hi => ?_)
    by_cases q : i < 64
    · exact h i q (by omega)
    · exact Nat.testBit_lt_two_pow (Nat.lt_of_lt_of_le hu (Nat.pow_le_pow_right (by decide) (by omega)))
theorem shr_nat (u K : Nat) : (u : Int) / 2 ^ K = ((u / 2 ^ K : Nat) : Int) := by simp

set_option maxHeartbeats 1000000 in
theorem pMay_any (h : Int) (u : Nat) (w : World) (hh : I64 h) (hu : u < 2 ^ 64) :
    Calls Tryd.prog 11 #[.int .i64 h, .int .u64 u] w fun e w' => e = .returned (.bool (mayC h u)) ∧ w = w' := by
  have h1 := hh.1
  have h2 := hh.2
  clear hh
  by_cases a1 : h < 0
  · have hm := Lib.hid (mayC_no (h := h) (u := u) fun m => by have := m.lo; omega)
    clear hu
    go_enter Tryd.func11, Tryd.ntmps11
    go_wp2
    go_ret
    exact ⟨ret_bool hm.out.symm, rfl⟩
  by_cases a2 : 1099511627776 < h
  · have hm := Lib.hid (mayC_no (h := h) (u := u) fun m => by have := m.hi; omega)
    clear hu
    go_enter Tryd.func11, Tryd.ntmps11
    go_wp2
    go_ret
    exact ⟨ret_bool hm.out.symm, rfl⟩
  obtain ⟨K, rfl⟩ : ∃ K : Nat, h = (K : Int) := ⟨h.toNat, by omega⟩
  have HF := Lib.hid (far_iff hu K)
  have HU := Lib.hid hu
  have e := shr_nat u (min K 64)
  obtain ⟨D, hD⟩ : ∃ D : Nat, D = u / 2 ^ min K 64 := ⟨_, rfl⟩
  rw [← hD] at HF e
  clear hu hD
  by_cases z : D = 0
  · subst z
    have hf := Lib.hid (HF.out.1 rfl)
    by_cases h3 : K = 0
    · have hm := Lib.hid (mayC_yes (h := (K : Int)) (u := u) ⟨by omega, by omega, HU.out, hf.out, fun h0 => absurd (by omega) h0⟩)
      have z1 : ((K : Int) == 0) = true := by rw [beq_iff_eq]; omega
      have e2 : (u : Int) / 2 ^ K = 0 := by
        have q : min K 64 = K := by omega
        rw [q] at e
        exact e
      clear h3
      go_enter Tryd.func11, Tryd.ntmps11
      go_wp2
      go_ret
      exact ⟨ret_bool hm.out.symm, rfl⟩
    · have hb := bit_u HU.out 0
      rw [show (u : Int) / 2 ^ 0 = u by omega] at hb
      have z1 : ((K : Int) == 0) = false := by rw [beq_eq_false_iff_ne]; omega
      cases hbit : u.testBit 0 with
      | true =>
        rw [hbit] at hb
        have hm := Lib.hid (mayC_yes (h := (K : Int)) (u := u) ⟨by omega, by omega, HU.out, hf.out, fun _ => hbit⟩)
        clear hbit h3
        go_enter Tryd.func11, Tryd.ntmps11
        go_wp2
        go_ret
        exact ⟨ret_bool hm.out.symm, rfl⟩
      | false =>
        rw [hbit] at hb
        have hm := Lib.hid (mayC_no (h := (K : Int)) (u := u) fun m => by have := m.one (by omega); rw [hbit] at this; cases this)
        clear hbit h3
        go_enter Tryd.func11, Tryd.ntmps11
        go_wp2
        go_ret
        exact ⟨ret_bool hm.out.symm, rfl⟩
  · have hm := Lib.hid (mayC_no (h := (K : Int)) (u := u) fun m => z (HF.out.2 m.far))
    have z1 : ((D : Int) == 0) = false := by rw [beq_eq_false_iff_ne]; omega
    go_enter Tryd.func11, Tryd.ntmps11
    go_wp2
    go_ret
    exact ⟨ret_bool hm.out.symm, rfl⟩
set_option maxHeartbeats 1000000 in
theorem pFresh_any (h : Int) (u : Nat) (n : Int) (w : World) (hh : I64 h) (hu : u < 2 ^ 64) (hn : I64 n) :
    Calls Tryd.prog 13 #[.int .i64 h, .int .u64 u, .int .i64 n] w fun e w' => e = .returned (.bool (freshC h u n)) ∧ w = w' := by
  have HH := Lib.hid hh
  have HU := Lib.hid hu
  have n1 := hn.1
  have n2 := hn.2
  have h1 := hh.1
  have h2 := hh.2
  clear hh hu hn
  by_cases m : MayN h u
  · have HM := Lib.hid (mayC_yes m)
    have HMM := Lib.hid m
    have m1 := m.lo
    have m2 := m.hi
    clear m
    by_cases a1 : n < 1
    · have hm := Lib.hid (freshC_no (h := h) (u := u) (n := n) fun m => by have := m.lo; omega)
      go_enter Tryd.func13, Tryd.ntmps13
      go_wp2_with (go_at_call 11; refine (pMay_any h u _ HH.out HU.out).mono ?_; rw [HM.out]; rintro e w' ⟨rfl, rfl⟩)
      go_ret
      exact ⟨ret_bool hm.out.symm, rfl⟩
    by_cases a2 : 1099511627776 < n
    · have hm := Lib.hid (freshC_no (h := h) (u := u) (n := n) fun m => by have := m.hi; omega)
      go_enter Tryd.func13, Tryd.ntmps13
      go_wp2_with (go_at_call 11; refine (pMay_any h u _ HH.out HU.out).mono ?_; rw [HM.out]; rintro e w' ⟨rfl, rfl⟩)
      go_ret
      exact ⟨ret_bool hm.out.symm, rfl⟩
    by_cases a3 : h < n
    · have hm := Lib.hid (freshC_yes (fresh_above HMM.out a3 (by omega)))
      go_enter Tryd.func13, Tryd.ntmps13
      go_wp2_with (go_at_call 11; refine (pMay_any h u _ HH.out HU.out).mono ?_; rw [HM.out]; rintro e w' ⟨rfl, rfl⟩)
      go_ret
      exact ⟨ret_bool hm.out.symm, rfl⟩
    by_cases a4 : n ≤ h - 64
    · have hm := Lib.hid (freshC_no (not_fresh_old (u := u) a4))
      go_enter Tryd.func13, Tryd.ntmps13
      go_wp2_with (go_at_call 11; refine (pMay_any h u _ HH.out HU.out).mono ?_; rw [HM.out]; rintro e w' ⟨rfl, rfl⟩)
      go_ret
      exact ⟨ret_bool (by rw [hm.out]; first | rfl | (simp; omega)), rfl⟩
    obtain ⟨K, hK⟩ : ∃ K : Nat, h - n = (K : Int) := ⟨(h - n).toNat, by omega⟩
    have hb := bit_u HU.out K
    have hw : wasB h u n = u.testBit K := by rw [wasB_in (by omega) (by omega)]; congr 1; omega
    cases hbit : u.testBit K with
    | true =>
      rw [hbit] at hb hw
      have hm := Lib.hid (freshC_no (not_fresh_used hw))
      clear hw
      go_enter Tryd.func13, Tryd.ntmps13
      go_wp2_with (go_at_call 11; refine (pMay_any h u _ HH.out HU.out).mono ?_; rw [HM.out]; rintro e w' ⟨rfl, rfl⟩)
      go_ret
      exact ⟨ret_bool (by rw [hm.out]; first | rfl | (simp; omega)), rfl⟩
    | false =>
      rw [hbit] at hb hw
      have hm := Lib.hid (freshC_yes (h := h) (u := u) (n := n) ⟨HMM.out, by omega, by omega, by omega, hw⟩)
      clear hw
      go_enter Tryd.func13, Tryd.ntmps13
      go_wp2_with (go_at_call 11; refine (pMay_any h u _ HH.out HU.out).mono ?_; rw [HM.out]; rintro e w' ⟨rfl, rfl⟩)
      go_ret
      exact ⟨ret_bool hm.out.symm, rfl⟩
  · have HM := Lib.hid (mayC_no m)
    have hm := Lib.hid (freshC_no (h := h) (u := u) (n := n) fun f => m f.may)
    clear m
    go_enter Tryd.func13, Tryd.ntmps13
    go_wp2_with (go_at_call 11; refine (pMay_any h u _ HH.out HU.out).mono ?_; rw [HM.out]; rintro e w' ⟨rfl, rfl⟩)
    go_ret
    exact ⟨ret_bool hm.out.symm, rfl⟩
end Go.Proofs.YtlikjchaamimcaaDoor
