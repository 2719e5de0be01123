/- The law WaveTurns, walked. -/
import Derived.Test.YtneopnlklhcopaaQ
namespace Go.Proofs.Ytneopnlklhcopaa
open Go.RowKit Slices Go.Proofs.Ytneopnlklhcopaa.Ring

/-- the numbers of f are moved into the slice at g: the first i -/
def TurnRel (w : World) (A : Option Addr) (f : List Int) (N g n i : Nat) (wr : World) : Prop :=
  Has wr wr.heap.size A f ∧ Below w.heap.size w wr ∧ ∃ l : List Int, wr.ownsRow w.heap.size 3 1 (.slice (some ⟨g, 0, none⟩) N N) N (ints l) ∧ IsPoly l ∧ Same (vec l) (MixT n (vec f) i)
theorem turn_next {w wr : World} {A : Option Addr} {f : List Int} {N g n i : Nat} (hA : Has w w.heap.size A f) (h : TurnRel w A f N g n i wr) (hn : n < 600) (hi : i < 256) {x : Int} (ox : okN x)
    (hx : phi x = if (i + n) / 256 % 2 = 1 then 0 - vec f i else vec f i) : TurnRel w A f N g n (i + 1) (wr.setCell ⟨g, (i + n) % 256, none⟩ (.int .i64 x)) := by
  obtain ⟨h1, h2, l, ho, hp, hs⟩ := h
  obtain ⟨p1, p2⟩ := turn_step hn hi hp hs ox hx
  have hb : Below w.heap.size w (wr.setCell ⟨g, (i + n) % 256, none⟩ (.int .i64 x)) := h2.setCell (own_block ho).1 _
  exact ⟨(hA.below hb).mono hb.size, hb, _, own_set ho _ _, p1, p2⟩

theorem pOver_len (A : Option Addr) (c : Nat) (l : List Int) (n : Nat) (w : World) (hn : l.length = n) (h : Has w w.heap.size A l) (hl : l.length ≤ 300) (T : Hid (Tab w) := by first | assumption | exact tab_b (by assumption) (by assumption) | exact tab_d0 (by assumption) | exact tab_d (by assumption) (by assumption)) :
    Calls Try.prog 15 #[.slice A n c] w (Res w (one vOver l)) := by
  subst hn; exact pOver_res A c l w h hl T

set_option maxRecDepth 100000 in
set_option maxHeartbeats 4000000 in
theorem turns_small (A : Option Addr) (c : Nat) (ns : List Int) (a1 : Int) (w : World) (hf : Has w w.heap.size A ns) (h1 : ns.length ≤ 300) (TB : Hid (Tab w)) :
    Calls Try.prog 10 #[.slice A ns.length c, .int .i64 a1] w fun e w' => e = .returned (.bool true) ∧ Below w.heap.size w w' := by
  obtain ⟨i0, hi0, hz0, hz1, hz2⟩ := info_parts Try.info3
  obtain ⟨N, hN⟩ : ∃ N : Nat, N = 256 := ⟨_, rfl⟩
  have n0 : N ≤ 256 := by omega
  have n1 : 256 ≤ N := by omega
  have HN := Lib.hid hN
  clear hN
  obtain ⟨n, hn, hlt⟩ := low_nat a1 256 (by omega)
  have HNN := Lib.hid hn
  have HF := Lib.hid hf
  clear hn hf
  go_enter Try.func10, Try.ntmps10
  go_wp2_with fail
  refine (lowp_any A c ns w HF.out h1).mono ?_
  rintro e w1 ⟨f, hp, gf, cf, rfl, ho, hb⟩
  have P1 := Lib.hid hp
  have H1 := Lib.hid (own_read ho)
  have B1 := Lib.hid hb
  have f0 : f.length ≤ 256 := by rw [hp.1]; exact Nat.le_refl _
  have f1 : 256 ≤ f.length := by rw [hp.1]; exact Nat.le_refl _
  clear hp ho hb
  go_wp2_with (first | (go_at_call 33; refine (low_as HNN.out _ (by omega) (by omega)).mono ?_; rintro e w' ⟨rfl, rfl⟩) | (at_make; refine wpList_make_full _ rfl _ _ 22 rfl w1.heap.size 3 i0 (.int .i64 0) 1 Try.underlying22 hi0 hz0 hz1 _ _ _ _ N rfl rfl (by omega) (by omega) (by rw [hz2]; omega) (by unfold maxLen; omega) (Nat.le_refl _) ?_; intro w2 hown hgrow; rw [made_ints] at hown; have HO := Lib.hid hown; clear hown; have HG := Lib.hid hgrow; clear hgrow))
  have hst : TurnRel w1 (some ⟨gf, 0, none⟩) f N w1.heap.size n 0 w2 := by
    have hb : Below w1.heap.size w1 w2 := (Below.refl _ _).grown HG.out (Nat.le_refl _) (by simp)
    have e := HN.out
    have HOO := HO.out
    rw [e] at HOO ⊢
    exact ⟨has_next H1.out hb, hb, zeroL, HOO, zero_poly, turn_start n _⟩
  have HST := Lib.hid hst
  clear hst HO HG
  go_loopw [7] (fun i wr => ∃ k : Nat, k ≤ 256 ∧ i = .int .i64 k ∧ TurnRel w1 (some ⟨gf, 0, none⟩) f N w1.heap.size n k wr) (fun i _ => 256 - (intOf i).toNat)
  case atStart => exact ⟨0, by omega, rfl, HST.out⟩
  case round =>
    obtain ⟨i, hi, rfl, hr⟩ := hrel
    have HR := Lib.hid hr
    clear hr HST
    by_cases hil : i < 256
    · have bi : decide ((i : Int) < 256) = true := by rw [decide_eq_true_iff]; omega
      obtain ⟨a, e, _, ha⟩ := HR.out.1 i (by omega)
      injection e with e
      subst e
      obtain ⟨x0, x1⟩ := P1.out.2 i hil
      obtain ⟨l, hol, _, _⟩ := HR.out.2.2
      have hg := own_cell hol (k := (i + n) % 256) (by omega)
      have hfz := hol.frozenAt ((i + n) % 256)
      clear hol
      have hph : phi (f.getD i 0) = vec f i := rfl
      have HPH := Lib.hid hph
      clear hph
      generalize f.getD i 0 = X at ha x0 x1 HPH
      have ha2 : wr.cell? ⟨gf, i, none⟩ = some (.int .i64 X) := by
        rw [← ha]; congr 1; unfold Addr.add; split
        · simp
        · simp
      by_cases hs : i + n < 256
      · have e1 : (i + n) % 256 = i + n := by omega
        have hnx := Lib.hid (turn_next H1.out HR.out (by omega) hil (x := X) ⟨x0, x1⟩ (by rw [if_neg (by omega), HPH.out]))
        rw [e1] at hg hfz hnx
        clear e1
        have bs : decide ((i : Int) + n < 256) = true := by rw [decide_eq_true_iff]; omega
        have bs2 : ((i : Int) + n).toNat = i + n := by omega
        go_wp2
        go_roundw
        case rel => exact ⟨i + 1, by omega, by go_num, hnx.out⟩
        case measure => simp [intOf]; omega
      · have e1 : (i + n) % 256 = i + n - 256 := by omega
        have hneg : phi (rOf (-X)) = 0 - phi X := by rw [phi_of, show -X = 0 - X by omega, phi_sub, phi_zero]
        have hnx := Lib.hid (turn_next H1.out HR.out (by omega) hil (x := rOf (-X)) ⟨rOf_lo _, rOf_hi _⟩ (by rw [if_pos (by omega), hneg, HPH.out]))
        rw [e1] at hg hfz hnx
        clear e1 hneg
        have bs : decide ((i : Int) + n < 256) = false := by rw [decide_eq_false_iff_not]; omega
        have bs2 : ((i : Int) + n - 256).toNat = i + n - 256 := by omega
        go_wp2_with (go_at_call 37; refine (of_any _ _).mono ?_; rintro e w' ⟨rfl, rfl⟩)
        go_roundw
        case rel => exact ⟨i + 1, by omega, by go_num, hnx.out⟩
        case measure => simp [intOf]; omega
    · have bi : decide ((i : Int) < 256) = false := by rw [decide_eq_false_iff_not]; omega
      have e : i = 256 := by omega
      subst e
      obtain ⟨hfr, hbr, l, hol, hpl, hsl⟩ := HR.out
      have HSL := Lib.hid (hsl.trans (turn_end n _))
      have HPL := Lib.hid hpl
      have HLN := Lib.hid (own_len hol)
      have Hl_10 := Lib.hid (own_has hol)
      have Hf_10 := Lib.hid hfr
      have B_10 := Lib.hid (B1.out.trans (hbr.mono B1.out.size))
      clear hfr hbr hol hpl hsl HR
      go_wp2_with fail
      refine (pOver_res (some ⟨gf, 0, none⟩) cf f wr Hf_10.out (by omega)).mono ?_
      rintro e w11 ⟨Ax1, cx1, rfl, ho, hb⟩
      have Hf_11 := Lib.hid (has_next Hf_10.out hb)
      have Hl_11 := Lib.hid (has_next Hl_10.out hb)
      have Hx1_11 := Lib.hid (own_read ho)
      have B_11 := Lib.hid (B_10.out.trans (hb.mono B_10.out.size))
      clear ho hb B_10 Hf_10 Hl_10
      go_wp2_with fail
      refine (unit_as n w11 rfl hlt).mono ?_
      rintro e w12 ⟨gx2, cx2, rfl, ho, hb⟩
      have Hf_12 := Lib.hid (has_next Hf_11.out hb)
      have Hl_12 := Lib.hid (has_next Hl_11.out hb)
      have Hx1_12 := Lib.hid (has_next Hx1_11.out hb)
      have Hx2_12 := Lib.hid (own_read ho)
      have B_12 := Lib.hid (B_11.out.trans (hb.mono B_11.out.size))
      clear ho hb B_11 Hf_11 Hl_11 Hx1_11
      go_wp2_with fail
      refine (pOver_res (some ⟨gx2, 0, none⟩) cx2 (unitL 256 n) w12 Hx2_12.out (by rw [(unit_poly _).1]; omega)).mono ?_
      rintro e w13 ⟨Ax3, cx3, rfl, ho, hb⟩
      have Hf_13 := Lib.hid (has_next Hf_12.out hb)
      have Hl_13 := Lib.hid (has_next Hl_12.out hb)
      have Hx1_13 := Lib.hid (has_next Hx1_12.out hb)
      have Hx3_13 := Lib.hid (own_read ho)
      have B_13 := Lib.hid (B_12.out.trans (hb.mono B_12.out.size))
      clear ho hb B_12 Hf_12 Hl_12 Hx1_12 Hx2_12
      go_wp2_with fail
      refine (pTimes_res Ax1 Ax3 cx1 cx3 (one vOver f) (one vOver (unitL 256 n)) w13 Hx1_13.out Hx3_13.out (by have := one_len vOver f; omega) (by have := one_len vOver (unitL 256 n); omega)).mono ?_
      rintro e w14 ⟨Ax4, cx4, rfl, ho, hb⟩
      have Hf_14 := Lib.hid (has_next Hf_13.out hb)
      have Hl_14 := Lib.hid (has_next Hl_13.out hb)
      have Hx4_14 := Lib.hid (own_read ho)
      have B_14 := Lib.hid (B_13.out.trans (hb.mono B_13.out.size))
      clear ho hb B_13 Hf_13 Hl_13 Hx1_13 Hx3_13
      go_wp2_with fail
      refine (pOver_len (some ⟨w1.heap.size, 0, none⟩) N l N w14 HLN.out Hl_14.out (by have := HPL.out.1; omega)).mono ?_
      rintro e w15 ⟨Ax5, cx5, rfl, ho, hb⟩
      have Hf_15 := Lib.hid (has_next Hf_14.out hb)
      have Hl_15 := Lib.hid (has_next Hl_14.out hb)
      have Hx4_15 := Lib.hid (has_next Hx4_14.out hb)
      have Hx5_15 := Lib.hid (own_read ho)
      have B_15 := Lib.hid (B_14.out.trans (hb.mono B_14.out.size))
      clear ho hb B_14 Hf_14 Hl_14 Hx4_14
      go_wp2_with fail
      refine (same_eq Ax4 Ax5 cx4 cx5 (two vTimes (one vOver f) (one vOver (unitL 256 n))) (one vOver l) w15 (by have e := turns_even n (by omega) (by omega) P1.out HPL.out HSL.out; rwa [Nat.mod_eq_of_lt hlt] at e) (by have := two_len vTimes (one vOver f) (one vOver (unitL 256 n)); omega) Hx4_15.out Hx5_15.out).mono ?_
      rintro e w16' ⟨rfl, n16, rfl⟩
      obtain ⟨w16, hw⟩ : ∃ v, w15.drewN n16 = v := ⟨_, rfl⟩
      rw [hw]
      have B_16 := Lib.hid (below_drewN B_15.out n16)
      rw [hw] at B_16
      have Hf_16 := Lib.hid (Hf_15.out.drewN n16)
      have Hf_16 : Hid (Has ((w15.drewN n16)) ((w15.drewN n16)).heap.size _ _) := Hf_16
      rw [hw] at Hf_16
      have Hl_16 := Lib.hid (Hl_15.out.drewN n16)
      have Hl_16 : Hid (Has ((w15.drewN n16)) ((w15.drewN n16)).heap.size _ _) := Hl_16
      rw [hw] at Hl_16
      clear hw B_15 Hf_15 Hl_15 Hx4_15 Hx5_15
      go_wp2_with fail
      refine (pNorm_one (some ⟨w1.heap.size, 0, none⟩) N N l w16 HLN.out Hl_16.out (by have := HPL.out.1; omega)).mono ?_
      rw [norm_turn_list n (by omega) P1.out HPL.out HSL.out]
      rintro e w17 ⟨rfl, hb⟩
      have Hf_17 := Lib.hid (has_next Hf_16.out hb)
      have B_17 := Lib.hid (B_16.out.trans (hb.mono B_16.out.size))
      clear hb B_16 Hf_16 Hl_16
      go_wp2_with fail
      refine (pNorm_one (some ⟨gf, 0, none⟩) cf _ f w17 rfl Hf_17.out (by omega)).mono ?_
      rintro e w18 ⟨rfl, hb⟩
      have B_18 := Lib.hid (B_17.out.trans (hb.mono B_17.out.size))
      clear hb B_17 Hf_17
      go_wp2_with fail
      refine (awake_any w18).mono ?_
      rintro e w19 ⟨rfl, hb⟩
      have B_19 := Lib.hid (B_18.out.trans (hb.mono B_18.out.size))
      clear hb
      go_wp2
      go_ret
      exact ⟨rfl, B_19.out⟩
end Go.Proofs.Ytneopnlklhcopaa
