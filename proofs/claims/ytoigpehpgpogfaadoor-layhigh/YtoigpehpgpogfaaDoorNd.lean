/- Contracts: the program's Near and Far. -/
import Derived.Test.YtoigpehpgpogfaaDoorNc
namespace Go.Proofs.YtoigpehpgpogfaaDoor
open Go.RowKit Slices Go.Proofs.YtoigpehpgpogfaaDoor.Bit

theorem res_mk {κ : IntKind} {t : TypeId} {w w' : World} {l : List Int} {A : Option Addr} {c : Nat} (ho : w'.ownsRow w.heap.size t 1 (.slice A l.length c) l.length (ints κ l)) (hb : Below w.heap.size w w') : Res κ t w l (.returned (.slice A l.length c)) w' := ⟨A, c, rfl, ho, hb⟩
theorem near_max {a b : Int} {f : List Int} (hw : 1 ≤ widthI a b) (hp : IsPoly f) : maxTo (lessL b f) (lessL b f).length ≤ a + b ↔ NearOk a b f := by
  have hl : (lessL b f).length = 256 := by rw [lessL_len, hp.1]
  rw [hl]
  constructor
  · intro h
    refine ⟨hw, hp, fun j hj => ?_⟩
    have := le_max (l := lessL b f) 256 j hj
    rw [lessL_at b f (by rw [hp.1]; exact hj)] at this
    omega
  · intro h
    have hk : ∀ j, j < 256 → (lessL b f).getD j 0 ≤ a + b := fun j hj => by
      rw [lessL_at b f (by rw [hp.1]; exact hj)]
      have := h.2.2 j hj
      omega
    exact max_le (hk 0 (by omega)) 256 hk

set_option maxRecDepth 100000 in
set_option maxHeartbeats 1000000 in
theorem pNear_any (a b : Int) (A : Option Addr) (c n : Nat) (f : List Int) (w : World) (hl : n = f.length) (h : Has .i64 w w.heap.size A f) (hn : f.length ≤ 4000) :
    Calls Tryd.prog 11 #[.int .i64 a, .int .i64 b, .slice A n c] w (Res .u8 5 w (nearI a b f)) := by
  subst hl
  by_cases hw : 1 ≤ widthI a b
  · have e : wideB a b = true := by unfold wideB; rw [decide_eq_true_iff]; exact hw
    have E := Lib.hid e
    clear e
    by_cases hp : IsPoly f
    · obtain ⟨a0, b0, a1, b1⟩ := width_bounds hw
      have hd := width_le a b
      have hfl : farL b f = lessL b f := farL_less b0 b1 hp
      have HM := Lib.hid (near_max hw hp)
      have HLL : Hid ((lessL b f).length = 256) := by show (lessL b f).length = 256; rw [lessL_len, hp.1]
      have HF : Hid (∀ k, k < f.length → 0 ≤ f.getD k 0 ∧ f.getD k 0 ≤ 16777215) := fun k hk => by
        have := hp.2 k (by rw [← hp.1]; exact hk)
        unfold okN at this
        omega
      have n0 : 0 < f.length := by rw [hp.1]; omega
      have HW : Hid (blen (a + b).toNat = widthI a b) := (width_yes ⟨a0, b0, a1, b1⟩).symm
      have H := Lib.hid h
      have HP := Lib.hid hp
      have HFL := Lib.hid hfl
      obtain ⟨N, hN⟩ : ∃ N : Nat, a + b = N := ⟨(a + b).toNat, by omega⟩
      have hNb : N ≤ 2097152 := by omega
      have HN : Hid (blen N = widthI a b) := by show blen N = _; have := HW.out; rw [hN] at this; simpa using this
      clear h hp hfl hw HW
      go_enter Tryd.func11, Tryd.ntmps11
      go_wp2_with (first
        | (go_at_call 37; refine (areBounds_any a b _).mono ?_; rw [E.out]; rintro e w' ⟨rfl, rfl⟩)
        | (go_at_call 38; refine (pMay_yes _ _ _ f _ H.out HP.out).mono ?_; rintro e w' ⟨rfl, n, rfl⟩)
        | (go_at_call 39; refine (below_any b A c f.length f _ rfl (H.out.drewN n) hn n0 b0 b1 HF.out).mono ?_; rw [HFL.out]; rintro e w1 ⟨A1, c1, rfl, ho, hb⟩; have HO := Lib.hid ho; have HB := Lib.hid (below_next (below_drewN (Below.refl _ w) n) hb); clear ho hb))
      have HH := Lib.hid (own_read HO.out)
      have hge : 0 < (lessL b f).length := by have := HLL.out; omega
      have hle : (lessL b f).length ≤ 4000 := by have := HLL.out; omega
      obtain ⟨m, hm⟩ : ∃ m, m = maxTo (lessL b f) (lessL b f).length := ⟨_, rfl⟩
      have hm2 : m ≤ a + b ↔ NearOk a b f := by rw [hm]; exact HM.out
      have HMM := Lib.hid hm
      by_cases hok : NearOk a b f
      · have hmle := hm2.2 hok
        have HOK := Lib.hid hok
        clear hok hm2 hm
        rw [hN] at hmle
        go_wp2_with (first
          | (go_at_call 40; refine (max_any A1 c1 _ _ (lessL b f) _ rfl HH.out hge hle).mono ?_; rw [← HMM.out]; rintro e w' ⟨rfl, rfl⟩)
          | (go_at_call 41; refine (widthOf_any N _ hNb).mono ?_; rw [HN.out]; rintro e w' ⟨rfl, rfl⟩)
          | (go_at_call 36; refine (pack_any (widthI a b : Int) A1 c1 _ (lessL b f) _ rfl HH.out hle).mono ?_; rintro e w2 ⟨A2, c2, rfl, ho2, hb2⟩; have HRES := Lib.hid (res_mk ho2 hb2); clear ho2 hb2))
        go_ret
        rw [near_yes HOK.out]
        exact Res.up HRES.out HB.out
      · have hmgt : a + b < m := by
          rcases Int.lt_or_le (a + b) m with q | q
          · exact q
          · exact absurd (hm2.1 q) hok
        have HNO := Lib.hid hok
        clear hok hm2 hm
        rw [hN] at hmgt
        go_wp2_with (first
          | (go_at_call 40; refine (max_any A1 c1 _ _ (lessL b f) _ rfl HH.out hge hle).mono ?_; rw [← HMM.out]; rintro e w' ⟨rfl, rfl⟩))
        go_ret
        rw [near_no HNO.out]
        exact res_nil rfl HB.out
    · rw [near_no fun g => hp g.2.1]
      have H := Lib.hid h
      have HP := Lib.hid hp
      clear h hp hw
      go_enter Tryd.func11, Tryd.ntmps11
      go_wp2_with (first
        | (go_at_call 37; refine (areBounds_any a b _).mono ?_; rw [E.out]; rintro e w' ⟨rfl, rfl⟩)
        | (go_at_call 38; refine (pMay_no _ _ _ f _ H.out HP.out).mono ?_; rintro e w' ⟨rfl, n, rfl⟩))
      go_ret
      exact res_nil rfl (below_drewN (Below.refl _ _) n)
  · rw [near_no fun g => hw g.1]
    have e : wideB a b = false := by unfold wideB; rw [decide_eq_false_iff_not]; exact hw
    have E := Lib.hid e
    clear e hw h
    go_enter Tryd.func11, Tryd.ntmps11
    go_wp2_with (go_at_call 37; refine (areBounds_any a b _).mono ?_; rw [E.out]; rintro e w' ⟨rfl, rfl⟩)
    go_ret
    exact res_nil rfl (Below.refl _ _)

set_option maxRecDepth 100000 in
set_option maxHeartbeats 1000000 in
theorem pFar_any (a b : Int) (A : Option Addr) (c n : Nat) (l : List Int) (w : World) (hn : n = l.length) (h : Has .u8 w w.heap.size A l) (hf : Fit 8 l) (hl : l.length ≤ 4000) :
    Calls Tryd.prog 12 #[.int .i64 a, .int .i64 b, .slice A n c] w (Res .i64 3 w (farI a b l)) := by
  subst hn
  by_cases hw : 1 ≤ widthI a b
  · have e : wideB a b = true := by unfold wideB; rw [decide_eq_true_iff]; exact hw
    have E := Lib.hid e
    obtain ⟨a0, b0, a1, b1⟩ := width_bounds hw
    have hd := width_le a b
    obtain ⟨N, hN⟩ : ∃ N : Nat, a + b = N := ⟨(a + b).toNat, by omega⟩
    have hNb : N ≤ 2097152 := by omega
    have HN : Hid (blen N = widthI a b) := by have := width_yes ⟨a0, b0, a1, b1⟩; rw [hN] at this; show blen N = _; rw [this]; rfl
    obtain ⟨D, hD⟩ : ∃ D, D = widthI a b := ⟨_, rfl⟩
    by_cases hl2 : l.length = 32 * widthI a b
    · rw [far_yes ⟨hw, hl2⟩]
      have hlen : (unpackI D l).length = 256 := by
        rw [hD, unpackI_len l hw (by omega), hl2]
        have : 8 * (32 * widthI a b) = 256 * widthI a b := by omega
        rw [this, Nat.mul_div_cancel _ (by omega)]
      have HLT : Hid (∀ k, k < (unpackI D l).length → 0 ≤ (unpackI D l).getD k 0 ∧ (unpackI D l).getD k 0 ≤ 16777215) := fun k hk => unpack_lt (by omega) (by omega) hk
      rw [← hD] at hl2 hd HN ⊢
      have t1 : ((l.length : Int) != ((32 * D : Nat) : Int)) = false := by rw [bne_eq_false_iff_eq]; omega
      have H := Lib.hid h
      have HF := Lib.hid hf
      have HLEN := Lib.hid hlen
      clear h hf hD hl2 hlen hw e
      go_enter Tryd.func12, Tryd.ntmps12
      go_wp2_with (first
        | (go_at_call 37; refine (areBounds_any a b _).mono ?_; rw [E.out]; rintro e w' ⟨rfl, rfl⟩)
        | (go_at_call 41; refine (widthOf_any N _ hNb).mono ?_; rw [HN.out]; rintro e w' ⟨rfl, rfl⟩)
        | (go_at_call 42; refine (sizeW_any D _ (by omega)).mono ?_; rintro e w' ⟨rfl, rfl⟩)
        | (go_at_call 43; refine (unpack_any (D : Int) A c _ l _ rfl H.out hl HF.out).mono ?_; rintro e w1 ⟨A1, c1, rfl, ho, hb⟩; have HO := Lib.hid ho; have HB := Lib.hid hb; clear ho hb)
        | (go_at_call 39; refine (below_any b A1 c1 _ (unpackI D l) _ rfl (own_read HO.out) (by rw [HLEN.out]; omega) (by rw [HLEN.out]; omega) b0 b1 HLT.out).mono ?_; rintro e w2 ⟨A2, c2, rfl, ho2, hb2⟩; have HRES := Lib.hid (res_mk ho2 hb2); clear ho2 hb2))
      go_ret
      exact Res.up HRES.out HB.out
    · rw [far_no fun g => hl2 g.2]
      rw [← hD] at hl2 hd HN
      have t1 : ((l.length : Int) != ((32 * D : Nat) : Int)) = true := by rw [bne_iff_ne]; omega
      clear h hf hD hw e
      go_enter Tryd.func12, Tryd.ntmps12
      go_wp2_with (first
        | (go_at_call 37; refine (areBounds_any a b _).mono ?_; rw [E.out]; rintro e w' ⟨rfl, rfl⟩)
        | (go_at_call 41; refine (widthOf_any N _ hNb).mono ?_; rw [HN.out]; rintro e w' ⟨rfl, rfl⟩)
        | (go_at_call 42; refine (sizeW_any D _ (by omega)).mono ?_; rintro e w' ⟨rfl, rfl⟩))
      go_ret
      exact res_nil rfl (Below.refl _ _)
  · rw [far_no fun g => hw g.1]
    have e : wideB a b = false := by unfold wideB; rw [decide_eq_false_iff_not]; exact hw
    have E := Lib.hid e
    clear e hw h hf
    go_enter Tryd.func12, Tryd.ntmps12
    go_wp2_with (go_at_call 37; refine (areBounds_any a b _).mono ?_; rw [E.out]; rintro e w' ⟨rfl, rfl⟩)
    go_ret
    exact res_nil rfl (Below.refl _ _)
end Go.Proofs.YtoigpehpgpogfaaDoor
