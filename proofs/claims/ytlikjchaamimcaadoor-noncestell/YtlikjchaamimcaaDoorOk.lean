/- Contracts: a number used, by the program's own code; what is asked of the program's functions, proved. -/
import Derived.Test.YtlikjchaamimcaaDoorOa
import Derived.Test.YtlikjchaamimcaaDoorNa
namespace Go.Proofs.YtlikjchaamimcaaDoor
open Go.RowKit Slices

/-- an error whose number is c, not wrapped; of 0 none -/
def IsF (c : Int) (v : Value) (w : World) : Prop := (c = 0 ∧ v = .nilIface) ∨ (c ≠ 0 ∧ ∃ p : Addr, v = .iface 40 (.pointer (some p)) ∧ w.cell? p = some (.int .i64 c))
theorem isF_nil (w : World) : IsF 0 .nilIface w := .inl ⟨rfl, rfl⟩
theorem isF_new {c : Int} {w : World} {x : Value} (h : c ≠ 0) : IsF c (.iface 40 (.pointer (some ⟨w.heap.size, 0, none⟩))) (w.alloc (.cells #[.int .i64 c, x] 45)) :=
  .inr ⟨h, _, rfl, by simp⟩
theorem unless_yes (c : Int) (x : Value) (w : World) :
    Calls Tryd.prog 22 #[.bool true, .int .i64 c, x] w fun e w' => e = .returned .nilIface ∧ w = w' := by
  go_enter Tryd.func22, Tryd.ntmps22
  go_wp2
  go_ret
  exact ⟨rfl, rfl⟩
theorem unless_no (c : Int) (x : ByteArray) (w : World) :
    Calls Tryd.prog 22 #[.bool false, .int .i64 c, .string x] w fun e w' => e = .returned (.iface 40 (.pointer (some ⟨w.heap.size, 0, none⟩))) ∧ w' = w.alloc (.cells #[.int .i64 c, .string x] 45) := by
  go_enter Tryd.func22, Tryd.ntmps22
  go_wp2
  go_ret
  exact ⟨rfl, rfl⟩
theorem unless_yes2 {b : Bool} (c : Int) (x : ByteArray) (w : World) (hb : b = true) :
    Calls Tryd.prog 22 #[.bool b, .int .i64 c, .string x] w fun e w' => e = .returned .nilIface ∧ w = w' := by
  rw [hb]
  exact unless_yes c _ w
theorem unless_no2 {b : Bool} (c : Int) (x : ByteArray) (w : World) (hb : b = false) :
    Calls Tryd.prog 22 #[.bool b, .int .i64 c, .string x] w fun e w' => e = .returned (.iface 40 (.pointer (some ⟨w.heap.size, 0, none⟩))) ∧ w' = w.alloc (.cells #[.int .i64 c, .string x] 45) := by
  rw [hb]
  exact unless_no c x w
theorem wrap_nil (x : ByteArray) (w : World) :
    Calls Tryd.prog 18 #[.string x, .nilIface] w fun e w' => e = .returned .nilIface ∧ w = w' := by
  go_enter Tryd.func18, Tryd.ntmps18
  go_wp2
  go_ret
  exact ⟨rfl, rfl⟩
theorem wrap_one (x : ByteArray) (p : Addr) (w : World) :
    Calls Tryd.prog 18 #[.string x, .iface 40 (.pointer (some p))] w fun e w' => e = .returned (.iface 49 (.pointer (some ⟨w.heap.size, 0, none⟩))) ∧ w' = w.alloc (.cells #[.string x, .iface 40 (.pointer (some p))] 51) := by
  go_enter Tryd.func18, Tryd.ntmps18
  go_wp2
  go_ret
  exact ⟨rfl, rfl⟩
theorem wrap_any (x : ByteArray) (c : Int) (v : Value) (w : World) (h : IsF c v w) :
    Calls Tryd.prog 18 #[.string x, v] w fun e w' => ∃ v', e = .returned v' ∧ IsErr c v' w' ∧ Below w.heap.size w w' := by
  rcases h with ⟨rfl, rfl⟩ | ⟨h0, p, rfl, hc⟩
  · exact (wrap_nil x w).mono fun e w' q => ⟨_, q.1, .inl ⟨rfl, rfl⟩, by rw [← q.2]; exact Below.refl _ _⟩
  · refine (wrap_one x p w).mono fun e w' ⟨q1, q2⟩ => ?_
    subst q2
    exact ⟨_, q1, .inr ⟨h0, _, p, rfl, by simp, cell_alloc hc _⟩, (Below.refl _ _).alloc (Nat.le_refl _) _⟩


theorem ret_use3 {a b : Int} {x y : Nat} {v : Value} (h : a = b) (k : x = y) : Ending.returned (.tuple #[.int .i64 a, .int .u64 (x : Int), v]) = .returned (.tuple #[.int .i64 b, .int .u64 (y : Int), v]) := by rw [h, k]
set_option maxHeartbeats 1000000 in
theorem use_in (h : Int) (u : Nat) (n : Int) (w : World) (HH : Hid (I64 h)) (HU : Hid (u < 2 ^ 64)) (HN : Hid (I64 n)) (f : FreshN h u n) (a1 : n ≤ h) :
    Calls Tryd.prog 17 #[.int .i64 h, .int .u64 u, .int .i64 n] w fun e w' => ∃ v, e = .returned (.tuple #[.int .i64 (useH h u n), .int .u64 (useW h u n), v]) ∧ IsF (useE h u n) v w' ∧ Below w.heap.size w w' := by
  have HM := Lib.hid (mayC_yes f.may)
  have HF := Lib.hid (freshC_yes f)
  have eH := Lib.hid (useH_yes f)
  have eW := Lib.hid (useW_yes f)
  have eE := Lib.hid (useE_yes f)
  have q1 := f.may.lo
  have q2 := f.may.hi
  have q3 := f.lo
  have q4 := f.hi
  have q5 := f.near
  clear f
  have e2 : useU h u n = u ||| 2 ^ (h - n).toNat := by unfold useU; rw [if_pos a1]
  obtain ⟨K, hK⟩ : ∃ K : Nat, h - n = (K : Int) := ⟨(h - n).toNat, by omega⟩
  have k64 : K < 64 := by omega
  have e3 : (h - n).toNat = K := by omega
  rw [e3] at e2
  have hs := shl_one k64
  have ho := or_u HU.out (pow_lt64 k64)
  rw [← e2] at ho
  have hz : h - h = 0 := by omega
  have hmx : max h n = h := by omega
  obtain ⟨P, hP⟩ : ∃ P : Int, ((2 ^ K : Nat) : Int) = P := ⟨_, rfl⟩
  rw [hP] at hs ho
  have hs1 : IntKind.u64.wrap (u : Int) = u := wraps_64 _ (by omega) (by have := HU.out; omega)
  clear e2 e3
  go_enter Tryd.func17, Tryd.ntmps17
  go_wp2_with (first
    | (go_at_call 11; refine (pMay_any h u _ HH.out HU.out).mono ?_; rintro e w' ⟨rfl, rfl⟩)
    | (go_at_call 13; refine (pFresh_any h u n _ HH.out HU.out HN.out).mono ?_; rintro e w' ⟨rfl, rfl⟩)
    | (go_at_call 22; refine (unless_yes2 _ _ _ (by first | with_reducible exact HM.out | with_reducible exact HF.out)).mono ?_; rintro e w' ⟨rfl, rfl⟩))
  go_quiet (fail)
  go_wp2
  go_ret3
  exact ⟨_, ret_use3 (hmx.symm.trans eH.out.symm) eW.out.symm, by rw [eE.out]; exact isF_nil _, below_drewN (Below.refl _ _) _⟩
set_option maxHeartbeats 1000000 in
theorem use_far (h : Int) (u : Nat) (n : Int) (w : World) (HH : Hid (I64 h)) (HU : Hid (u < 2 ^ 64)) (HN : Hid (I64 n)) (f : FreshN h u n) (a1 : 64 ≤ n - h) :
    Calls Tryd.prog 17 #[.int .i64 h, .int .u64 u, .int .i64 n] w fun e w' => ∃ v, e = .returned (.tuple #[.int .i64 (useH h u n), .int .u64 (useW h u n), v]) ∧ IsF (useE h u n) v w' ∧ Below w.heap.size w w' := by
  have HM := Lib.hid (mayC_yes f.may)
  have HF := Lib.hid (freshC_yes f)
  have eH := Lib.hid (useH_yes f)
  have eW := Lib.hid (useW_yes f)
  have eE := Lib.hid (useE_yes f)
  have q1 := f.may.lo
  have q2 := f.may.hi
  have q3 := f.lo
  have q4 := f.hi
  have q5 := f.near
  clear f
  obtain ⟨K, hK⟩ : ∃ K : Nat, n - h = (K : Int) := ⟨(n - h).toNat, by omega⟩
  have hmx : max h n = n := by omega
  have hz : n - n = 0 := by omega
  have k64 : 64 ≤ K := by omega
  have e2 : useU h u n = 1 := by unfold useU; rw [if_neg (by omega), if_pos a1]
  have hs : IntKind.u64.wrap ((u : Int) * 18446744073709551616) = 0 := by rw [IntKind.wrap_u64]; omega
  have ho : bits .or .u64 0 1 = ((useU h u n : Nat) : Int) := by rw [e2]; decide
  have hm64 : min K 64 = 64 := by omega
  clear e2
  go_enter Tryd.func17, Tryd.ntmps17
  go_wp2_with (first
    | (go_at_call 11; refine (pMay_any h u _ HH.out HU.out).mono ?_; rintro e w' ⟨rfl, rfl⟩)
    | (go_at_call 13; refine (pFresh_any h u n _ HH.out HU.out HN.out).mono ?_; rintro e w' ⟨rfl, rfl⟩)
    | (go_at_call 22; refine (unless_yes2 _ _ _ (by first | with_reducible exact HM.out | with_reducible exact HF.out)).mono ?_; rintro e w' ⟨rfl, rfl⟩))
  go_quiet (fail)
  go_wp2
  go_ret3
  exact ⟨_, ret_use3 (hmx.symm.trans eH.out.symm) eW.out.symm, by rw [eE.out]; exact isF_nil _, below_drewN (Below.refl _ _) _⟩
set_option maxHeartbeats 1000000 in
theorem use_up (h : Int) (u : Nat) (n : Int) (w : World) (HH : Hid (I64 h)) (HU : Hid (u < 2 ^ 64)) (HN : Hid (I64 n)) (f : FreshN h u n) (a1 : h < n) (a2 : n - h < 64) :
    Calls Tryd.prog 17 #[.int .i64 h, .int .u64 u, .int .i64 n] w fun e w' => ∃ v, e = .returned (.tuple #[.int .i64 (useH h u n), .int .u64 (useW h u n), v]) ∧ IsF (useE h u n) v w' ∧ Below w.heap.size w w' := by
  have HM := Lib.hid (mayC_yes f.may)
  have HF := Lib.hid (freshC_yes f)
  have eH := Lib.hid (useH_yes f)
  have eW := Lib.hid (useW_yes f)
  have eE := Lib.hid (useE_yes f)
  have q1 := f.may.lo
  have q2 := f.may.hi
  have q3 := f.lo
  have q4 := f.hi
  have q5 := f.near
  clear f
  obtain ⟨K, hK⟩ : ∃ K : Nat, n - h = (K : Int) := ⟨(n - h).toNat, by omega⟩
  have hmx : max h n = n := by omega
  have hz : n - n = 0 := by omega
  have k64 : K < 64 := by omega
  have e2 : useU h u n = (u <<< K) % 2 ^ 64 ||| 1 := by
    unfold useU
    have q : (n - h).toNat = K := by omega
    rw [if_neg (by omega), if_neg (by omega), q]
  have hs := shl_u u K
  have ho := or_u (a := (u <<< K) % 2 ^ 64) (b := 1) (Nat.mod_lt _ (by decide)) (by decide)
  rw [← e2] at ho
  obtain ⟨P, hP⟩ : ∃ P : Int, (((u <<< K) % 2 ^ 64 : Nat) : Int) = P := ⟨_, rfl⟩
  rw [hP] at hs ho
  have ho1 : bits .or .u64 P 1 = ((useU h u n : Nat) : Int) := ho
  clear e2 ho hP
  go_enter Tryd.func17, Tryd.ntmps17
  go_wp2_with (first
    | (go_at_call 11; refine (pMay_any h u _ HH.out HU.out).mono ?_; rintro e w' ⟨rfl, rfl⟩)
    | (go_at_call 13; refine (pFresh_any h u n _ HH.out HU.out HN.out).mono ?_; rintro e w' ⟨rfl, rfl⟩)
    | (go_at_call 22; refine (unless_yes2 _ _ _ (by first | with_reducible exact HM.out | with_reducible exact HF.out)).mono ?_; rintro e w' ⟨rfl, rfl⟩))
  go_quiet (fail)
  go_wp2
  go_ret3
  exact ⟨_, ret_use3 (hmx.symm.trans eH.out.symm) eW.out.symm, by rw [eE.out]; exact isF_nil _, below_drewN (Below.refl _ _) _⟩
set_option maxHeartbeats 1000000 in
theorem use_used (h : Int) (u : Nat) (n : Int) (w : World) (HH : Hid (I64 h)) (HU : Hid (u < 2 ^ 64)) (HN : Hid (I64 n)) (m : MayN h u) (f : ¬ FreshN h u n) :
    Calls Tryd.prog 17 #[.int .i64 h, .int .u64 u, .int .i64 n] w fun e w' => ∃ v, e = .returned (.tuple #[.int .i64 (useH h u n), .int .u64 (useW h u n), v]) ∧ IsF (useE h u n) v w' ∧ Below w.heap.size w w' := by
  have HM := Lib.hid (mayC_yes m)
  have HF := Lib.hid (freshC_no f)
  have eH := Lib.hid (useH_no f)
  have eW := Lib.hid (useW_no f)
  have eE := Lib.hid (useE_8 f m)
  clear f m
  go_enter Tryd.func17, Tryd.ntmps17
  go_wp2_with (first
    | (go_at_call 11; refine (pMay_any h u _ HH.out HU.out).mono ?_; rintro e w' ⟨rfl, rfl⟩)
    | (go_at_call 13; refine (pFresh_any h u n _ HH.out HU.out HN.out).mono ?_; rintro e w' ⟨rfl, rfl⟩)
    | (go_at_call 22; refine (unless_yes2 _ _ _ (by with_reducible exact HM.out)).mono ?_; rintro e w' ⟨rfl, rfl⟩)
    | (go_at_call 22; refine (unless_no2 _ _ _ (by with_reducible exact HF.out)).mono ?_; rintro e w' ⟨rfl, rfl⟩))
  go_ret3
  exact ⟨_, ret_use3 eH.out.symm eW.out.symm, by rw [eE.out]; exact isF_new (by decide), (Below.refl _ _).alloc (Nat.le_refl _) _⟩
set_option maxHeartbeats 1000000 in
theorem use_not (h : Int) (u : Nat) (n : Int) (w : World) (HH : Hid (I64 h)) (HU : Hid (u < 2 ^ 64)) (m : ¬ MayN h u) :
    Calls Tryd.prog 17 #[.int .i64 h, .int .u64 u, .int .i64 n] w fun e w' => ∃ v, e = .returned (.tuple #[.int .i64 (useH h u n), .int .u64 (useW h u n), v]) ∧ IsF (useE h u n) v w' ∧ Below w.heap.size w w' := by
  have HM := Lib.hid (mayC_no m)
  have hf : ¬ FreshN h u n := fun f => m f.may
  have HF := Lib.hid (freshC_no hf)
  have eH := Lib.hid (useH_no hf)
  have eW := Lib.hid (useW_no hf)
  have eE : Hid (useE h u n = 2) := by unfold useE; rw [HF.out, HM.out]; exact Lib.hid rfl
  clear m hf HF
  go_enter Tryd.func17, Tryd.ntmps17
  go_wp2_with (first
    | (go_at_call 11; refine (pMay_any h u _ HH.out HU.out).mono ?_; rintro e w' ⟨rfl, rfl⟩)
    | (go_at_call 22; refine (unless_no2 _ _ _ (by with_reducible exact HM.out)).mono ?_; rintro e w' ⟨rfl, rfl⟩))
  go_ret3
  exact ⟨_, ret_use3 eH.out.symm eW.out.symm, by rw [eE.out]; exact isF_new (by decide), (Below.refl _ _).alloc (Nat.le_refl _) _⟩
theorem use_any (h : Int) (u : Nat) (n : Int) (w : World) (hh : I64 h) (hu : u < 2 ^ 64) (hn : I64 n) :
    Calls Tryd.prog 17 #[.int .i64 h, .int .u64 u, .int .i64 n] w fun e w' => ∃ v, e = .returned (.tuple #[.int .i64 (useH h u n), .int .u64 (useW h u n), v]) ∧ IsF (useE h u n) v w' ∧ Below w.heap.size w w' := by
  by_cases m : MayN h u
  · by_cases f : FreshN h u n
    · by_cases a1 : n ≤ h
      · exact use_in h u n w (Lib.hid hh) (Lib.hid hu) (Lib.hid hn) f a1
      · by_cases a2 : 64 ≤ n - h
        · exact use_far h u n w (Lib.hid hh) (Lib.hid hu) (Lib.hid hn) f a2
        · exact use_up h u n w (Lib.hid hh) (Lib.hid hu) (Lib.hid hn) f (by omega) (by omega)
    · exact use_used h u n w (Lib.hid hh) (Lib.hid hu) (Lib.hid hn) m f
  · exact use_not h u n w (Lib.hid hh) (Lib.hid hu) m
set_option maxHeartbeats 1000000 in
theorem pUse_any (h : Int) (u : Nat) (n : Int) (w : World) (hh : I64 h) (hu : u < 2 ^ 64) (hn : I64 n) :
    Calls Tryd.prog 8 #[.int .i64 h, .int .u64 u, .int .i64 n] w fun e w' => ∃ v, e = .returned (.tuple #[.int .i64 (useH h u n), .int .u64 (useW h u n), v]) ∧ IsErr (useE h u n) v w' ∧ Below w.heap.size w w' := by
  have HC := Lib.hid (use_any h u n w hh hu hn)
  obtain ⟨X, hX⟩ : ∃ X, X = useH h u n := ⟨_, rfl⟩
  obtain ⟨Y, hY⟩ : ∃ Y, Y = useW h u n := ⟨_, rfl⟩
  obtain ⟨Z, hZ⟩ : ∃ Z, Z = useE h u n := ⟨_, rfl⟩
  rw [← hX, ← hY, ← hZ] at HC ⊢
  clear hX hY hZ hh hu hn
  go_enter Tryd.func8, Tryd.ntmps8
  go_wp2_with fail
  refine HC.out.mono ?_
  rintro e w1 ⟨v, rfl, hE, hb⟩
  have E1 := Lib.hid hE
  have B1 := Lib.hid hb
  clear hE hb HC
  go_wp2_with fail
  refine (wrap_any _ Z v w1 E1.out).mono ?_
  rintro e w2 ⟨v2, rfl, hE, hb⟩
  have E2 := Lib.hid hE
  have B2 := Lib.hid (below_next B1.out hb)
  clear hE hb
  go_wp2
  go_ret3
  exact ⟨_, rfl, E2.out, B2.out⟩
theorem noncesOk : NoncesOk where
  may h u w hh hu := (pMay_any h u w hh hu).mono fun _ _ q => ⟨q.1, by rw [q.2]; exact Below.refl _ _⟩
  fresh h u n w hh hu hn := (pFresh_any h u n w hh hu hn).mono fun _ _ q => ⟨q.1, by rw [q.2]; exact Below.refl _ _⟩
  use := pUse_any
end Go.Proofs.YtlikjchaamimcaaDoor
