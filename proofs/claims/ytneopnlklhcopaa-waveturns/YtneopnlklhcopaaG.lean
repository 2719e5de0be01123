/- Contract: the document's own way back. -/
import Derived.Test.YtneopnlklhcopaaE
import Derived.Test.YtneopnlklhcopaaPolyE
namespace Go.Proofs.Ytneopnlklhcopaa
open Go.RowKit Slices Go.Proofs.Ytneopnlklhcopaa.Ring

def OutB (w : World) (N g c : Nat) (f : V) (L M : Nat) (wr : World) : Prop := ∃ m, m ≤ 8 ∧ L = 2 ^ m ∧ M = 2 ^ (8 - m) ∧ Holds w N g c (bl m f) wr
def MidB (w : World) (N g c : Nat) (F : V) (L Q S M : Nat) (wr : World) : Prop := ∃ b, S = 2 * L * b ∧ M + b = 2 * Q ∧ b ≤ Q ∧ Holds w N g c (MixB L F S S) wr

theorem outB_facts {w wr : World} {N g c : Nat} {f : V} {L M : Nat} (h : OutB w N g c f L M wr) :
    1 ≤ L ∧ L ≤ 256 ∧ M ≤ 256 ∧ (L ≤ 128 → ∃ F Q, Holds w N g c F wr ∧ 1 ≤ Q ∧ Q ≤ 128 ∧ M = 2 * Q ∧ 256 / L = 2 * Q ∧ 2 * L * Q = 256 ∧ ∀ wr', Holds w N g c (backL L F) wr' → OutB w N g c f (2 * L) Q wr') ∧ (128 < L → Holds w N g c (bl 8 f) wr) := by
  obtain ⟨m, hm, rfl, rfl, hh⟩ := h
  have hm' : m = 0 ∨ m = 1 ∨ m = 2 ∨ m = 3 ∨ m = 4 ∨ m = 5 ∨ m = 6 ∨ m = 7 ∨ m = 8 := by omega
  have e1 : 1 ≤ 2 ^ m ∧ 2 ^ m ≤ 256 ∧ 2 ^ (8 - m) ≤ 256 := by rcases hm' with rfl | rfl | rfl | rfl | rfl | rfl | rfl | rfl | rfl <;> decide
  have e2 : 2 ^ m ≤ 128 → m ≤ 7 ∧ 1 ≤ 2 ^ (7 - m) ∧ 2 ^ (7 - m) ≤ 128 ∧ 2 ^ (8 - m) = 2 * 2 ^ (7 - m) ∧ 256 / 2 ^ m = 2 * 2 ^ (7 - m) ∧ 2 * 2 ^ m * 2 ^ (7 - m) = 256 ∧ 2 * 2 ^ m = 2 ^ (m + 1) ∧ 2 ^ (7 - m) = 2 ^ (8 - (m + 1)) := by
    rcases hm' with rfl | rfl | rfl | rfl | rfl | rfl | rfl | rfl | rfl <;> decide
  have e3 : 128 < 2 ^ m → m = 8 := by rcases hm' with rfl | rfl | rfl | rfl | rfl | rfl | rfl | rfl | rfl <;> decide
  refine ⟨e1.1, e1.2.1, e1.2.2, fun h2 => ?_, fun h2 => ?_⟩
  · obtain ⟨a1, a2, a3, a4, a5, a6, a7, a8⟩ := e2 h2
    exact ⟨_, 2 ^ (7 - m), hh, a2, a3, a4, a5, a6, fun wr' hw => ⟨m + 1, by omega, a7, a8, hw⟩⟩
  · have := e3 h2
    subst this
    exact hh

theorem midB_facts {w wr : World} {N g c : Nat} {F : V} {L Q S M : Nat} (h : MidB w N g c F L Q S M wr) (hL : 1 ≤ L) (_hQ : 1 ≤ Q) (hI : 2 * L * Q = 256) :
    S ≤ 256 ∧ M ≤ 2 * Q ∧ (S < 256 → S + 2 * L ≤ 256 ∧ 1 ≤ M) ∧ (256 ≤ S → Holds w N g c (backL L F) wr ∧ M = Q) := by
  obtain ⟨b, rfl, hI', hb, hh⟩ := h
  have h1 : 2 * L * b ≤ 256 := by rw [← hI]; exact Nat.mul_le_mul_left _ hb
  refine ⟨h1, by omega, fun hs => ?_, fun hs => ?_⟩
  · have h2 : b < Q := by
      rcases Nat.lt_or_ge b Q with h | h
      · exact h
      · have : 2 * L * Q ≤ 2 * L * b := Nat.mul_le_mul_left _ h
        omega
    have h3 : 2 * L * (b + 1) ≤ 2 * L * Q := Nat.mul_le_mul_left _ h2
    rw [Nat.mul_add] at h3
    exact ⟨by omega, by omega⟩
  · have : b = Q := by
      rcases Nat.lt_or_ge b Q with h | h
      · have : 2 * L * (b + 1) ≤ 2 * L * Q := Nat.mul_le_mul_left _ h
        rw [Nat.mul_add] at this
        omega
      · omega
    exact ⟨hh.same (mixB_end L F _ hs), by omega⟩

theorem midB_next {w wr wr' : World} {N g c : Nat} {F : V} {L Q S M : Nat} (h : MidB w N g c F L Q S M wr) (hs : S < 256) (hM : 1 ≤ M) (hI : 2 * L * Q = 256) (hh : Holds w N g c (MixB L F S (S + L)) wr') :
    MidB w N g c F L Q (S + 2 * L) (M - 1) wr' := by
  obtain ⟨b, rfl, hI', hb, _⟩ := h
  rw [mixB_block] at hh
  refine ⟨b + 1, by rw [Nat.mul_add]; omega, by omega, ?_, hh⟩
  rcases Nat.lt_or_ge b Q with h | h
  · exact h
  · have : 2 * L * Q ≤ 2 * L * b := Nat.mul_le_mul_left _ h
    omega

theorem pairB_next {w wr : World} {N g c : Nat} {F : V} {L Q S M J : Nat} {l : List Int} (hm : MidB w N g c F L Q S M wr) (hI : 256 / L = 2 * Q) (hL : 1 ≤ L) (h0 : S ≤ J) (h1 : J < S + L) (h2 : J + L < 256)
    {wi : World} (hown : wi.ownsRow w.heap.size 3 1 (.slice (some ⟨g, 0, none⟩) N c) N (ints l)) (hp : IsPoly l) (hs : Same (vec l) (MixB L F S J)) (hb : Below w.heap.size w wi)
    {z u v : Int} (hz : phi z = zr (M - 1)) (hu : phi u = phi z * (phi (l.getD (J + L) 0) - phi (l.getD J 0))) (hv : phi v = phi (l.getD J 0) + phi (l.getD (J + L) 0)) (ou : okN u) (ov : okN v) :
    Holds w N g c (MixB L F S (J + 1)) ((wi.setCell ⟨g, J, none⟩ (.int .i64 v)).setCell ⟨g, J + L, none⟩ (.int .i64 u)) := by
  obtain ⟨b, rfl, hb', _, _⟩ := hm
  have e : M - 1 = 256 / L - 1 - b := by omega
  rw [e] at hz
  obtain ⟨p1, p2⟩ := pairB_step (by omega) h0 h1 h2 hp hs hz hu hv ou ov
  exact ⟨_, own_set (own_set hown _ _) _ _, p1, p2, (hb.setCell (own_block hown).1 _).setCell (own_block hown).1 _⟩

theorem scale_next {w wr : World} {N g c k : Nat} {f : V} (h : Holds w N g c (MixS f k) wr) (hk : k < 256) :
    ∃ l : List Int, wr.ownsRow w.heap.size 3 1 (.slice (some ⟨g, 0, none⟩) N c) N (ints l) ∧ okN (l.getD k 0) ∧ Holds w N g c (MixS f (k + 1)) (wr.setCell ⟨g, k, none⟩ (.int .i64 (l.getD k 0 * 8347681 % 8380417))) := by
  obtain ⟨l, hown, hp, hs, hb⟩ := h
  obtain ⟨p1, p2⟩ := scale_step hk hp hs (rem_ok (l.getD k 0 * 8347681)) (phi_8347681 _)
  exact ⟨l, hown, hp.2 k hk, _, own_set hown _ _, p1, p2, hb.setCell (own_block hown).1 _⟩
theorem scale_start (f : V) : MixS f 0 = f := by funext p; unfold MixS; rw [if_neg (by omega)]
theorem scale_end (f : V) : Same (MixS (bl 8 f) 256) (vBack f) := fun p hp => by unfold MixS; rw [if_pos hp]; rfl

set_option maxRecDepth 100000 in
set_option maxHeartbeats 2000000 in
theorem refBack_yes (A : Option Addr) (c : Nat) (l : List Int) (w : World) (h : Has w w.heap.size A l) (hp : IsPoly l) :
    Calls Try.prog 22 #[.slice A l.length c] w (Gives w (toL (vBack (vec l)))) := by
  obtain ⟨i0, hi0, hz0, hz1, hz2⟩ := info_parts Try.info3
  have n0 : l.length ≤ 256 := by rw [hp.1]; exact Nat.le_refl _
  have n1 : 256 ≤ l.length := by rw [hp.1]; exact Nat.le_refl _
  have HP := Lib.hid hp
  obtain ⟨a, rfl, hb, hc⟩ := h.addr (by omega)
  have H := Lib.hid h
  have HC := Lib.hid hc
  clear h hp hc
  go_enter Try.func22, Try.ntmps22
  go_wp2_with (first
    | (go_at_call 25; refine (may_yes _ _ _ _ _ H.out HP.out).mono ?_; rintro e w' ⟨rfl, n, rfl⟩)
    | (at_builtin; refine wpList_append_own _ rfl _ _ 22 rfl w.heap.size 3 i0 (.int .i64 0) 1 8 Try.underlying22 hi0 hz0 hz1 hz2 rfl (by decide) _ _ _ rfl (World.ownsRow_nil _ _ _ _) a l.length c (ints l) rfl (by rw [ints_length]; omega) (by intro j u hu; exact HC.out j u hu) (ints_one l) (by unfold maxLen; omega) (by omega) (Nat.le_refl _) ?_; intro v1 w1 hown hgrow hnil; clear hnil; rw [List.nil_append, Nat.zero_add] at hown; obtain ⟨g, c1, rfl, hg⟩ := own_form hown (by omega); have HO := Lib.hid hown; clear hown; have HG := Lib.hid hgrow; clear hgrow))
  have hs : Holds w l.length g c1 (bl 0 (vec l)) w1 := ⟨l, HO.out, HP.out, Same.refl _, (below_drewN (Below.refl _ _) _).grown HG.out (Nat.le_refl _) (fun k hk => by cases hk)⟩
  have HS := Lib.hid hs
  clear hs HO HG
  generalize l.length = N at n0 n1 HS
  go_loopw [4, 5] (fun i n wr => ∃ L M : Nat, i = .int .i64 M ∧ n = .int .i64 L ∧ OutB w N g c1 (vec l) L M wr) (fun _ n _ => 257 - (intOf n).toNat)
  case atStart => exact ⟨1, 256, rfl, rfl, 0, by decide, by decide, by decide, HS.out⟩
  case round =>
    obtain ⟨L, M, rfl, rfl, ho⟩ := hrel
    obtain ⟨o1, o2, o3, o5, o6⟩ := outB_facts ho
    have HO := Lib.hid ho
    have H5 := Lib.hid o5
    have H6 := Lib.hid o6
    clear ho o5 o6
    by_cases hL : L ≤ 128
    · obtain ⟨F, Q, hF, q0, q1, hI, hI1, hI2, hnext⟩ := H5.out hL
      have HF := Lib.hid hF
      have HI := Lib.hid hI
      have HI1 := Lib.hid hI1
      have HI2 := Lib.hid hI2
      have HN := Lib.hid hnext
      clear hF hI hI1 hI2 hnext
      have bL : decide ((L : Int) ≤ 128) = true := by rw [decide_eq_true_iff]; omega
      go_wp2
      go_loopw [4, 6] (fun i s wr => ∃ M' S : Nat, i = .int .i64 M' ∧ s = .int .i64 S ∧ MidB w N g c1 F L Q S M' wr) (fun _ s _ => 256 - (intOf s).toNat)
      case atStart => exact ⟨M, 0, rfl, rfl, 0, by omega, by have := HI.out; omega, by omega, by rw [mixB_start]; exact HF.out⟩
      case round =>
        obtain ⟨M', S, rfl, rfl, hm⟩ := hrel
        obtain ⟨m1, m2, m4, m5⟩ := midB_facts hm o1 q0 HI2.out
        have HM := Lib.hid hm
        have H4 := Lib.hid m4
        have HE := Lib.hid m5
        clear hm m4 m5
        by_cases hS : S < 256
        · obtain ⟨hS2, hM1⟩ := H4.out hS
          have bS : decide ((S : Int) < 256) = true := by rw [decide_eq_true_iff]; omega
          obtain ⟨z, hz⟩ : ∃ z, z = rRoot ((M' : Int) - 1) := ⟨_, rfl⟩
          obtain ⟨z0, z1⟩ : okN z := by rw [hz]; exact rRoot_ok _
          have hpz : phi z = zr (M' - 1) := by
            rw [hz]
            show _ = phi (rRoot ((M' - 1 : Nat) : Int))
            rw [show ((M' - 1 : Nat) : Int) = (M' : Int) - 1 by omega]
          have HZ := Lib.hid hz
          have HPZ := Lib.hid hpz
          clear hz hpz
          go_wp2_with (go_at_call 27; refine (refRoot_as HZ.out _).mono ?_; rintro e w' ⟨rfl, rfl⟩)
          have hst : Holds w N g c1 (MixB L F S S) wr := by obtain ⟨b, rfl, _, _, hh⟩ := HM.out; exact hh
          have HST := Lib.hid hst
          clear hst
          go_loopw [8] (fun j wj => ∃ J : Nat, S ≤ J ∧ J ≤ S + L ∧ j = .int .i64 J ∧ Holds w N g c1 (MixB L F S J) wj) (fun j _ => S + L - (intOf j).toNat)
          case atStart => exact ⟨S, by omega, by omega, rfl, HST.out⟩
          case round =>
            obtain ⟨J, j0, j1, rfl, hh⟩ := hrel
            have HH := Lib.hid hh
            clear hh HST
            by_cases hJ : J < S + L
            · obtain ⟨cur, hown, hpol, hsame, hbel⟩ := HH.out
              have cX := own_cell hown (k := J) (by omega)
              have cY := own_cell hown (k := J + L) (by omega)
              have fX := hown.frozenAt J
              have fY := hown.frozenAt (J + L)
              obtain ⟨x0, x1⟩ := hpol.2 J (by omega)
              obtain ⟨y0, y1⟩ := hpol.2 (J + L) (by omega)
              have hpair := back_pair (cur.getD J 0) (cur.getD (J + L) 0) z
              have hnx := fun u v => pairB_next (l := cur) (z := z) (u := u) (v := v) HM.out HI1.out o1 j0 hJ (by omega) hown hpol hsame hbel HPZ.out
              have HNX := Lib.hid hnx
              have HPR := Lib.hid hpair
              clear hown hpol hsame hbel hnx hpair
              generalize cur.getD J 0 = X at cX x0 x1 HNX HPR
              generalize cur.getD (J + L) 0 = Y at cY y0 y1 HNX HPR
              obtain ⟨D, hD⟩ : ∃ D, (X - Y + 8380417) % 8380417 = D := ⟨_, rfl⟩
              have d0 : 0 ≤ D := by omega
              have d1 : D ≤ 8380416 := by omega
              rw [hD] at HPR
              have q0' : 0 ≤ (8380417 - z) * D := Int.mul_nonneg (by omega) d0
              have q1' : (8380417 - z) * D ≤ 8380417 * 8380416 := Int.mul_le_mul (by omega) d1 d0 (by omega)
              go_wp2
              go_roundw
              case rel => exact ⟨J + 1, by omega, by omega, by go_num, HNX.out _ _ HPR.out.1 HPR.out.2 (rem_ok _) (rem_ok _)⟩
              case measure => simp [intOf]; omega
            · go_wp2
              go_roundw
              case rel =>
                have e : J = S + L := by omega
                subst e
                exact ⟨M' - 1, S + 2 * L, by go_num, by go_num, midB_next HM.out hS hM1 HI2.out HH.out⟩
              case measure => simp [intOf]; omega
        · go_wp2
          go_roundw
          case rel =>
            obtain ⟨e1, e2⟩ := HE.out (by omega)
            subst e2
            exact ⟨2 * L, _, rfl, by go_num, HN.out _ e1⟩
          case measure => simp [intOf]; omega
    · have hfin : Holds w N g c1 (MixS (bl 8 (vec l)) 0) wr := by rw [scale_start]; exact H6.out (by omega)
      have HFN := Lib.hid hfin
      clear hfin
      have bL : decide ((L : Int) ≤ 128) = false := by rw [decide_eq_false_iff_not]; omega
      go_wp2
      go_loopw [10] (fun j wj => ∃ J : Nat, J ≤ 256 ∧ j = .int .i64 J ∧ Holds w N g c1 (MixS (bl 8 (vec l)) J) wj) (fun j _ => 256 - (intOf j).toNat)
      case atStart => exact ⟨0, by omega, rfl, HFN.out⟩
      case round =>
        obtain ⟨J, j1, rfl, hh⟩ := hrel
        have HH := Lib.hid hh
        clear hh HFN
        by_cases hJ : J < 256
        · obtain ⟨cur, hown, hok, hnx⟩ := scale_next HH.out hJ
          have cX := own_cell hown (k := J) (by omega)
          have fX := hown.frozenAt J
          obtain ⟨x0, x1⟩ := hok
          have HNX := Lib.hid hnx
          clear hown hnx
          generalize cur.getD J 0 = X at cX x0 x1 HNX
          go_wp2
          go_roundw
          case rel => exact ⟨J + 1, by omega, by go_num, HNX.out⟩
          case measure => simp [intOf]; omega
        · go_wp2
          go_ret
          have e : J = 256 := by omega
          subst e
          exact (HH.out.same (scale_end _)).gives
end Go.Proofs.Ytneopnlklhcopaa
