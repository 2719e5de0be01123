/- Contracts: windows, by the document's own code; a number's remainder. -/
import Derived.Test.YtlikjchaamimcaaDoorNw
import Derived.Test.YtlikjchaamimcaaDoorProg
import Derived.Laws.BitsLemmas
namespace Go.Proofs.YtlikjchaamimcaaDoor
open Go.RowKit Slices

theorem ret_bool {a b : Bool} (h : a = b) : Ending.returned (.bool a) = .returned (.bool b) := by rw [h]
theorem ret_int {k : IntKind} {a b : Int} (h : a = b) : Ending.returned (.int k a) = .returned (.int k b) := by rw [h]
theorem wraps_64 (n : Int) (h₀ : 0 ≤ n) (h₁ : n < 2 ^ 64) : IntKind.u64.wrap n = n := by rw [IntKind.wrap_u64]; omega
theorem and_u {a b : Nat} (ha : a < 2 ^ 64) (hb : b < 2 ^ 64) : bits .and .u64 (a : Int) (b : Int) = ((a &&& b : Nat) : Int) :=
  (bits_nat .u64 64 (by decide) (fun n h0 h1 => wraps_64 n h0 h1) a b ha hb).1
theorem or_u {a b : Nat} (ha : a < 2 ^ 64) (hb : b < 2 ^ 64) : bits .or .u64 (a : Int) (b : Int) = ((a ||| b : Nat) : Int) :=
  (bits_nat .u64 64 (by decide) (fun n h0 h1 => wraps_64 n h0 h1) a b ha hb).2
/-- a bit, as the code asks for it -/
theorem bit_u {u : Nat} (hu : u < 2 ^ 64) (k : Nat) : bits .and .u64 ((u : Int) / 2 ^ k) 1 = (((u.testBit k).toNat : Nat) : Int) := by
  have e : (u : Int) / 2 ^ k = ((u / 2 ^ k : Nat) : Int) := by simp
  have e1 : (1 : Int) = ((1 : Nat) : Int) := rfl
  rw [e, e1, and_u (Nat.lt_of_le_of_lt (Nat.div_le_self _ _) hu) (by decide), Nat.and_one_is_mod, Nat.testBit_eq_decide_div_mod_eq]
  rcases Nat.mod_two_eq_zero_or_one (u / 2 ^ k) with h | h <;> rw [h] <;> rfl

set_option maxHeartbeats 400000 in
theorem refMay_any (h : Int) (u : Nat) (w : World) (hh : I64 h) (hu : u < 2 ^ 64) :
    Calls Tryd.prog 12 #[.int .i64 h, .int .u64 u] w fun e w' => e = .returned (.bool (mayC h u)) ∧ w = w' := by
  have h1 := hh.1
  have h2 := hh.2
  clear hh
  by_cases a1 : h < 0
  · have hm := Lib.hid (mayC_no (h := h) (u := u) fun m => by have := m.lo; omega)
    clear hu
    go_enter Tryd.func12, Tryd.ntmps12
    go_wp2
    go_ret
    exact ⟨ret_bool hm.out.symm, rfl⟩
  by_cases a2 : 1099511627776 < h
  · have hm := Lib.hid (mayC_no (h := h) (u := u) fun m => by have := m.hi; omega)
    clear hu
    go_enter Tryd.func12, Tryd.ntmps12
    go_wp2
    go_ret
    exact ⟨ret_bool hm.out.symm, rfl⟩
  have HU := Lib.hid hu
  clear hu
  go_enter Tryd.func12, Tryd.ntmps12
  go_wp2
  go_loopw [5] (fun i wr => ∃ k : Nat, k ≤ 64 ∧ i = .int .i64 k ∧ wr = w ∧ ∀ j : Nat, j < k → h ≤ (j : Int) → u.testBit j = false) (fun i _ => 64 - (intOf i).toNat)
  case atStart => exact ⟨0, by omega, rfl, rfl, fun j hj => by omega⟩
  case round =>
    obtain ⟨k, hk, rfl, rfl, hr⟩ := hrel
    have HR := Lib.hid hr
    clear hr
    by_cases hlt : k < 64
    · have hb := bit_u HU.out k
      by_cases h3 : h ≤ (k : Int)
      · cases hbit : u.testBit k with
        | true =>
          rw [hbit] at hb
          have hm := Lib.hid (mayC_no (h := h) (u := u) fun m => by have := m.far k hlt h3; rw [hbit] at this; cases this)
          go_wp2
          go_ret
          exact ⟨ret_bool hm.out.symm, rfl⟩
        | false =>
          rw [hbit] at hb
          have HB := Lib.hid hbit
          clear hbit
          go_wp2
          go_roundw
          case rel => exact ⟨k + 1, by omega, by go_num, trivial, fun j hj hj2 => by
            by_cases e : j = k
            · rw [e]; exact HB.out
            · exact HR.out j (by omega) hj2⟩
          case measure => simp [intOf]; omega
      · go_wp2
        go_roundw
        case rel => exact ⟨k + 1, by omega, by go_num, trivial, fun j hj hj2 => HR.out j (by omega) hj2⟩
        case measure => simp [intOf]; omega
    · have e : k = 64 := by omega
      subst e
      by_cases h3 : h = 0
      · have hm := Lib.hid (mayC_yes (h := h) (u := u) ⟨by omega, by omega, HU.out, fun i hi hj => HR.out i hi hj, fun h0 => absurd h3 h0⟩)
        go_wp2
        go_ret
        exact ⟨ret_bool hm.out.symm, rfl⟩
      · have hb := bit_u HU.out 0
        rw [show (u : Int) / 2 ^ 0 = u by omega] at hb
        cases hbit : u.testBit 0 with
        | true =>
          rw [hbit] at hb
          have hm := Lib.hid (mayC_yes (h := h) (u := u) ⟨by omega, by omega, HU.out, fun i hi hj => HR.out i hi hj, fun _ => hbit⟩)
          have z : (h == 0) = false := by rw [beq_eq_false_iff_ne]; exact h3
          go_wp2
          go_ret
          exact ⟨ret_bool hm.out.symm, rfl⟩
        | false =>
          rw [hbit] at hb
          have hm := Lib.hid (mayC_no (h := h) (u := u) fun m => by have := m.one h3; rw [hbit] at this; cases this)
          have z : (h == 0) = false := by rw [beq_eq_false_iff_ne]; exact h3
          go_wp2
          go_ret
          exact ⟨ret_bool hm.out.symm, rfl⟩

set_option maxHeartbeats 400000 in
theorem refFresh_any (h : Int) (u : Nat) (n : Int) (w : World) (hh : I64 h) (hu : u < 2 ^ 64) (hn : I64 n) :
    Calls Tryd.prog 14 #[.int .i64 h, .int .u64 u, .int .i64 n] w fun e w' => e = .returned (.bool (freshC h u n)) ∧ w = w' := by
  have HH := Lib.hid hh
  have HU := Lib.hid hu
  have n1 := hn.1
  have n2 := hn.2
  have h1 := hh.1
  have h2 := hh.2
  clear hh hu hn
  by_cases m : MayN h u
  · have HM := Lib.hid (mayC_yes m)
    have HMM := Lib.hid m
    have m1 := m.lo
    have m2 := m.hi
    clear m
    by_cases a1 : n < 1
    · have hm := Lib.hid (freshC_no (h := h) (u := u) (n := n) fun m => by have := m.lo; omega)
      go_enter Tryd.func14, Tryd.ntmps14
      go_wp2_with (go_at_call 12; refine (refMay_any h u _ HH.out HU.out).mono ?_; rw [HM.out]; rintro e w' ⟨rfl, rfl⟩)
      go_ret
      exact ⟨ret_bool hm.out.symm, rfl⟩
    by_cases a2 : 1099511627776 < n
    · have hm := Lib.hid (freshC_no (h := h) (u := u) (n := n) fun m => by have := m.hi; omega)
      go_enter Tryd.func14, Tryd.ntmps14
      go_wp2_with (go_at_call 12; refine (refMay_any h u _ HH.out HU.out).mono ?_; rw [HM.out]; rintro e w' ⟨rfl, rfl⟩)
      go_ret
      exact ⟨ret_bool hm.out.symm, rfl⟩
    by_cases a3 : h < n
    · have hm := Lib.hid (freshC_yes (fresh_above HMM.out a3 (by omega)))
      go_enter Tryd.func14, Tryd.ntmps14
      go_wp2_with (go_at_call 12; refine (refMay_any h u _ HH.out HU.out).mono ?_; rw [HM.out]; rintro e w' ⟨rfl, rfl⟩)
      go_ret
      exact ⟨ret_bool hm.out.symm, rfl⟩
    by_cases a4 : n ≤ h - 64
    · have hm := Lib.hid (freshC_no (not_fresh_old (u := u) a4))
      go_enter Tryd.func14, Tryd.ntmps14
      go_wp2_with (go_at_call 12; refine (refMay_any h u _ HH.out HU.out).mono ?_; rw [HM.out]; rintro e w' ⟨rfl, rfl⟩)
      go_ret
      exact ⟨ret_bool (by rw [hm.out]; first | rfl | (simp; omega)), rfl⟩
    obtain ⟨K, hK⟩ : ∃ K : Nat, h - n = (K : Int) := ⟨(h - n).toNat, by omega⟩
    have hb := bit_u HU.out K
    have hw : wasB h u n = u.testBit K := by rw [wasB_in (by omega) (by omega)]; congr 1; omega
    cases hbit : u.testBit K with
    | true =>
      rw [hbit] at hb hw
      have hm := Lib.hid (freshC_no (not_fresh_used hw))
      clear hw
      go_enter Tryd.func14, Tryd.ntmps14
      go_wp2_with (go_at_call 12; refine (refMay_any h u _ HH.out HU.out).mono ?_; rw [HM.out]; rintro e w' ⟨rfl, rfl⟩)
      go_ret
      exact ⟨ret_bool (by rw [hm.out]; first | rfl | (simp; omega)), rfl⟩
    | false =>
      rw [hbit] at hb hw
      have hm := Lib.hid (freshC_yes (h := h) (u := u) (n := n) ⟨HMM.out, by omega, by omega, by omega, hw⟩)
      clear hw
      go_enter Tryd.func14, Tryd.ntmps14
      go_wp2_with (go_at_call 12; refine (refMay_any h u _ HH.out HU.out).mono ?_; rw [HM.out]; rintro e w' ⟨rfl, rfl⟩)
      go_ret
      exact ⟨ret_bool hm.out.symm, rfl⟩
  · have HM := Lib.hid (mayC_no m)
    have hm := Lib.hid (freshC_no (h := h) (u := u) (n := n) fun f => m f.may)
    clear m
    go_enter Tryd.func14, Tryd.ntmps14
    go_wp2_with (go_at_call 12; refine (refMay_any h u _ HH.out HU.out).mono ?_; rw [HM.out]; rintro e w' ⟨rfl, rfl⟩)
    go_ret
    exact ⟨ret_bool hm.out.symm, rfl⟩

/-- what a use makes of the bits, as the code reckons it -/
theorem shl_one {K : Nat} (hK : K < 64) : IntKind.u64.wrap ((2 : Int) ^ K) = ((2 ^ K : Nat) : Int) := by
  have h := pow_lt64 hK
  have e : (2 : Int) ^ K = ((2 ^ K : Nat) : Int) := by simp
  rw [e]
  generalize 2 ^ K = P at h
  exact wraps_64 _ (by omega) (by omega)
theorem shl_u (u K : Nat) : IntKind.u64.wrap ((u : Int) * 2 ^ K) = (((u <<< K) % 2 ^ 64 : Nat) : Int) := by
  have e : (u : Int) * 2 ^ K = ((u <<< K : Nat) : Int) := by rw [Nat.shiftLeft_eq]; simp
  rw [e, IntKind.wrap_u64]
  omega

theorem ret_use {a b : Int} {x y c d : Int} (h : a = b) (k : x = y) (l : c = d) : Ending.returned (.tuple #[.int .i64 a, .int .u64 x, .int .i64 c]) = .returned (.tuple #[.int .i64 b, .int .u64 y, .int .i64 d]) := by rw [h, k, l]
set_option maxHeartbeats 400000 in
theorem refUse_any (h : Int) (u : Nat) (n : Int) (w : World) (hh : I64 h) (hu : u < 2 ^ 64) (hn : I64 n) :
    Calls Tryd.prog 9 #[.int .i64 h, .int .u64 u, .int .i64 n] w fun e w' => e = .returned (.tuple #[.int .i64 (useH h u n), .int .u64 (useW h u n), .int .i64 (useE h u n)]) ∧ Below w.heap.size w w' := by
  have HH := Lib.hid hh
  have HU := Lib.hid hu
  have HN := Lib.hid hn
  clear hh hu hn
  by_cases f : FreshN h u n
  · have HM := Lib.hid (mayC_yes f.may)
    have HF := Lib.hid (freshC_yes f)
    have eH := Lib.hid (useH_yes f)
    have eW := Lib.hid (useW_yes f)
    have eE := Lib.hid (useE_yes f)
    have q1 := f.may.lo
    have q2 := f.may.hi
    have q3 := f.lo
    have q4 := f.hi
    have q5 := f.near
    clear f
    by_cases a1 : n ≤ h
    · have e2 : useU h u n = u ||| 2 ^ (h - n).toNat := by unfold useU; rw [if_pos a1]
      obtain ⟨K, hK⟩ : ∃ K : Nat, h - n = (K : Int) := ⟨(h - n).toNat, by omega⟩
      have k64 : K < 64 := by omega
      have e3 : (h - n).toNat = K := by omega
      rw [e3] at e2
      have hs := shl_one k64
      have ho := or_u HU.out (pow_lt64 k64)
      rw [← e2] at ho
      have EW := Lib.hid e2
      obtain ⟨P, hP⟩ : ∃ P : Int, ((2 ^ K : Nat) : Int) = P := ⟨_, rfl⟩
      rw [hP] at hs ho
      clear e2 e3
      go_enter Tryd.func9, Tryd.ntmps9
      go_wp2_with (first
        | (go_at_call 12; refine (refMay_any h u _ HH.out HU.out).mono ?_; rw [HM.out]; rintro e w' ⟨rfl, rfl⟩)
        | (go_at_call 14; refine (refFresh_any h u n _ HH.out HU.out HN.out).mono ?_; rw [HF.out]; rintro e w' ⟨rfl, rfl⟩))
      go_quiet (fail)
      go_wp2
      go_ret3
      exact ⟨ret_use (by rw [eH.out]; omega) (by rw [eW.out]) (by rw [eE.out]), below_drewN (Below.refl _ _) _⟩
    · by_cases a2 : 64 ≤ n - h
      · have EW : Hid (useU h u n = 1) := by unfold useU; rw [if_neg a1, if_pos a2]; exact Lib.hid rfl
        go_enter Tryd.func9, Tryd.ntmps9
        go_wp2_with (first
          | (go_at_call 12; refine (refMay_any h u _ HH.out HU.out).mono ?_; rw [HM.out]; rintro e w' ⟨rfl, rfl⟩)
          | (go_at_call 14; refine (refFresh_any h u n _ HH.out HU.out HN.out).mono ?_; rw [HF.out]; rintro e w' ⟨rfl, rfl⟩))
        go_ret3
        exact ⟨ret_use (by rw [eH.out]; omega) (by rw [eW.out, EW.out]; rfl) (by rw [eE.out]), Below.refl _ _⟩
      · have e2 : useU h u n = (u <<< (n - h).toNat) % 2 ^ 64 ||| 1 := by unfold useU; rw [if_neg a1, if_neg a2]
        obtain ⟨K, hK⟩ : ∃ K : Nat, n - h = (K : Int) := ⟨(n - h).toNat, by omega⟩
        have e3 : (n - h).toNat = K := by omega
        rw [e3] at e2
        have hs := shl_u u K
        have ho := or_u (a := (u <<< K) % 2 ^ 64) (b := 1) (Nat.mod_lt _ (by decide)) (by decide)
        rw [← e2] at ho
        obtain ⟨P, hP⟩ : ∃ P : Int, (((u <<< K) % 2 ^ 64 : Nat) : Int) = P := ⟨_, rfl⟩
        rw [hP] at hs ho
        have ho1 : bits .or .u64 P 1 = ((useU h u n : Nat) : Int) := ho
        clear e2 e3 ho
        go_enter Tryd.func9, Tryd.ntmps9
        go_wp2_with (first
          | (go_at_call 12; refine (refMay_any h u _ HH.out HU.out).mono ?_; rw [HM.out]; rintro e w' ⟨rfl, rfl⟩)
          | (go_at_call 14; refine (refFresh_any h u n _ HH.out HU.out HN.out).mono ?_; rw [HF.out]; rintro e w' ⟨rfl, rfl⟩))
        go_quiet (fail)
        go_wp2
        go_ret3
        exact ⟨ret_use (by rw [eH.out]; omega) (by rw [eW.out]) (by rw [eE.out]), below_drewN (Below.refl _ _) _⟩
  · have HF := Lib.hid (freshC_no f)
    have eH := Lib.hid (useH_no f)
    have eW := Lib.hid (useW_no f)
    by_cases m : MayN h u
    · have HM := Lib.hid (mayC_yes m)
      have eE := Lib.hid (useE_8 f m)
      clear f m
      go_enter Tryd.func9, Tryd.ntmps9
      go_wp2_with (first
        | (go_at_call 12; refine (refMay_any h u _ HH.out HU.out).mono ?_; rw [HM.out]; rintro e w' ⟨rfl, rfl⟩)
        | (go_at_call 14; refine (refFresh_any h u n _ HH.out HU.out HN.out).mono ?_; rw [HF.out]; rintro e w' ⟨rfl, rfl⟩))
      go_ret3
      exact ⟨ret_use eH.out.symm (by rw [eW.out]; rfl) eE.out.symm, Below.refl _ _⟩
    · have HM := Lib.hid (mayC_no m)
      have eE : Hid (useE h u n = 2) := by unfold useE; rw [HF.out, HM.out]; exact Lib.hid rfl
      clear f m
      go_enter Tryd.func9, Tryd.ntmps9
      go_wp2_with (go_at_call 12; refine (refMay_any h u _ HH.out HU.out).mono ?_; rw [HM.out]; rintro e w' ⟨rfl, rfl⟩)
      go_ret3
      exact ⟨ret_use eH.out.symm (by rw [eW.out]; rfl) eE.out.symm, Below.refl _ _⟩

/-- the statements' own remainder -/
def low (x n : Int) : Int := x % 18446744073709551616 % n
theorem low_lo (x : Int) {n : Int} (h : 1 ≤ n) : 0 ≤ low x n := Int.emod_nonneg _ (by omega)
theorem low_hi (x : Int) {n : Int} (h : 1 ≤ n) : low x n < n := Int.emod_lt_of_pos _ (by omega)
theorem wrap_low (x n : Int) (h0 : 1 ≤ n) (h1 : n ≤ 4611686018427387904) : wrap64 ((IntKind.u64.wrap x).tmod n) = low x n := by
  have e : IntKind.u64.wrap x = x % 18446744073709551616 := by simp [IntKind.wrap, IntKind.bits, IntKind.signed]
  rw [e, Int.tmod_eq_emod_of_nonneg (by omega)]
  have l0 := low_lo x h0
  have l1 := low_hi x h0
  exact IntWalk.wrap64_in _ (by show -9223372036854775808 ≤ low x n ∧ low x n ≤ 9223372036854775807; omega)

set_option maxHeartbeats 400000 in
theorem lawLow_any (x n : Int) (w : World) (h0 : 1 ≤ n) (h1 : n ≤ 4611686018427387904) :
    Calls Tryd.prog 16 #[.int .i64 x, .int .i64 n] w fun e w' => e = .returned (.int .i64 (low x n)) ∧ w = w' := by
  go_enter Tryd.func16, Tryd.ntmps16
  go_wp2
  go_ret
  exact ⟨ret_int (wrap_low x n h0 h1), rfl⟩
theorem low_some (z n : Int) (w : World) (h0 : 1 ≤ n) (h1 : n ≤ 4611686018427387904) :
    Calls Tryd.prog 16 #[.int .i64 z, .int .i64 n] w fun e w' => ∃ v, e = .returned (.int .i64 v) ∧ 0 ≤ v ∧ v < n ∧ w = w' :=
  (lawLow_any z n w h0 h1).mono fun _ _ h => ⟨low z n, h.1, low_lo z h0, low_hi z h0, h.2⟩
end Go.Proofs.YtlikjchaamimcaaDoor
