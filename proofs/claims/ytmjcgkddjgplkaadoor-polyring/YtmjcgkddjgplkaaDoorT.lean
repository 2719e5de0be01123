/- The law PolyTurns, walked. -/
import Derived.Test.YtmjcgkddjgplkaaDoorS
import Derived.Test.YtmjcgkddjgplkaaDoorPolyI
namespace Go.Proofs.YtmjcgkddjgplkaaDoor
open Go.RowKit Slices Go.Proofs.YtmjcgkddjgplkaaDoor.Ring

theorem unit_as {x : Int} (i : Nat) (w : World) (hx : x = i) (hi : i < 256) : Calls Tryd.prog 35 #[.int .i64 x] w (Gives w (unitL 256 i)) := by
  subst hx; exact unit_any i w hi

/-- the numbers of f are moved into the slice at g: the first i -/
def TurnRel (w : World) (A : Option Addr) (f : List Int) (N g n i : Nat) (wr : World) : Prop :=
  Has wr wr.heap.size A f ∧ Below w.heap.size w wr ∧ ∃ l : List Int, wr.ownsRow w.heap.size 3 1 (.slice (some ⟨g, 0, none⟩) N N) N (ints l) ∧ IsPoly l ∧ Same (vec l) (MixT n (vec f) i)
theorem turn_next {w wr : World} {A : Option Addr} {f : List Int} {N g n i : Nat} (hA : Has w w.heap.size A f) (h : TurnRel w A f N g n i wr) (hn : n < 600) (hi : i < 256) {x : Int} (ox : okN x)
    (hx : phi x = if (i + n) / 256 % 2 = 1 then 0 - vec f i else vec f i) : TurnRel w A f N g n (i + 1) (wr.setCell ⟨g, (i + n) % 256, none⟩ (.int .i64 x)) := by
  obtain ⟨h1, h2, l, ho, hp, hs⟩ := h
  obtain ⟨p1, p2⟩ := turn_step hn hi hp hs ox hx
  have hb : Below w.heap.size w (wr.setCell ⟨g, (i + n) % 256, none⟩ (.int .i64 x)) := h2.setCell (own_block ho).1 _
  exact ⟨(hA.below hb).mono hb.size, hb, _, own_set ho _ _, p1, p2⟩

theorem pOver_len (A : Option Addr) (c : Nat) (l : List Int) (n : Nat) (w : World) (hn : l.length = n) (h : Has w w.heap.size A l) (hl : l.length ≤ 300) (T : Hid (Tab w) := by first | assumption | exact tab_b (by assumption) (by assumption) | exact tab_d0 (by assumption) | exact tab_d (by assumption) (by assumption)) :
    Calls Tryd.prog 15 #[.slice A n c] w (Res w (one vOver l)) := by
  subst hn; exact pOver_res A c l w h hl T
theorem pMay_len (A : Option Addr) (c : Nat) (l : List Int) (n : Nat) (w : World) (hn : l.length = n) (h : Has w w.heap.size A l) (hl : l.length ≤ 300) :
    Calls Tryd.prog 24 #[.slice A n c] w fun e w' => e = .returned (.bool (mayB l)) ∧ ∃ n, w' = w.drewN n := by
  subst hn; exact pMay_any A c l w h hl
theorem pSub_len (A A' : Option Addr) (c c' : Nat) (l m : List Int) (n : Nat) (w : World) (hn : l.length = n) (h : Has w w.heap.size A l) (h' : Has w w.heap.size A' m) (hl : l.length ≤ 300) (hm : m.length ≤ 300) :
    Calls Tryd.prog 14 #[.slice A n c, .slice A' m.length c'] w (Res w (two vSub l m)) := by
  subst hn; exact pSub_res A A' c c' l m w h h' hl hm

set_option maxRecDepth 100000 in
set_option maxHeartbeats 4000000 in
theorem turns_small (A : Option Addr) (c : Nat) (ns : List Int) (a1 : Int) (w : World) (hf : Has w w.heap.size A ns) (h1 : ns.length ≤ 300) (TB : Hid (Tab w)) :
    Calls Tryd.prog 10 #[.slice A ns.length c, .int .i64 a1] w fun e w' => e = .returned (.bool true) ∧ Below w.heap.size w w' := by
  obtain ⟨i0, hi0, hz0, hz1, hz2⟩ := info_parts Tryd.info3
  obtain ⟨N, hN⟩ : ∃ N : Nat, N = 256 := ⟨_, rfl⟩
  have n0 : N ≤ 256 := by omega
  have n1 : 256 ≤ N := by omega
  have HN := Lib.hid hN
  clear hN
  obtain ⟨n, hn, hlt⟩ := low_nat a1 600 (by omega)
  have HNN := Lib.hid hn
  have HF := Lib.hid hf
  clear hn hf
  go_enter Tryd.func10, Tryd.ntmps10
  go_wp2_with fail
  refine (lowp_any A c ns w HF.out h1).mono ?_
  rintro e w1 ⟨f, hp, gf, cf, rfl, ho, hb⟩
  have P1 := Lib.hid hp
  have H1 := Lib.hid (own_read ho)
  have B1 := Lib.hid hb
  have f0 : f.length ≤ 256 := by rw [hp.1]; exact Nat.le_refl _
  have f1 : 256 ≤ f.length := by rw [hp.1]; exact Nat.le_refl _
  clear hp ho hb
  go_wp2_with (first | (go_at_call 29; refine (low_as HNN.out _ (by omega) (by omega)).mono ?_; rintro e w' ⟨rfl, rfl⟩) | (at_make; refine wpList_make_full _ rfl _ _ 22 rfl w1.heap.size 3 i0 (.int .i64 0) 1 Tryd.underlying22 hi0 hz0 hz1 _ _ _ _ N rfl rfl (by omega) (by omega) (by rw [hz2]; omega) (by unfold maxLen; omega) (Nat.le_refl _) ?_; intro w2 hown hgrow; rw [made_ints] at hown; have HO := Lib.hid hown; clear hown; have HG := Lib.hid hgrow; clear hgrow))
  have hst : TurnRel w1 (some ⟨gf, 0, none⟩) f N w1.heap.size n 0 w2 := by
    have hb : Below w1.heap.size w1 w2 := (Below.refl _ _).grown HG.out (Nat.le_refl _) (by simp)
    have e := HN.out
    have HOO := HO.out
    rw [e] at HOO ⊢
    exact ⟨has_next H1.out hb, hb, zeroL, HOO, zero_poly, turn_start n _⟩
  have HST := Lib.hid hst
  clear hst HO HG
  go_loopw [7] (fun i wr => ∃ k : Nat, k ≤ 256 ∧ i = .int .i64 k ∧ TurnRel w1 (some ⟨gf, 0, none⟩) f N w1.heap.size n k wr) (fun i _ => 256 - (intOf i).toNat)
  case atStart => exact ⟨0, by omega, rfl, HST.out⟩
  case round =>
    obtain ⟨i, hi, rfl, hr⟩ := hrel
    have HR := Lib.hid hr
    clear hr HST
    by_cases hil : i < 256
    · have bi : decide ((i : Int) < 256) = true := by rw [decide_eq_true_iff]; omega
      obtain ⟨a, e, _, ha⟩ := HR.out.1 i (by omega)
      injection e with e
      subst e
      obtain ⟨x0, x1⟩ := P1.out.2 i hil
      obtain ⟨l, hol, _, _⟩ := HR.out.2.2
      have hg := own_cell hol (k := (i + n) % 256) (by omega)
      have hfz := hol.frozenAt ((i + n) % 256)
      clear hol
      have hph : phi (f.getD i 0) = vec f i := rfl
      have HPH := Lib.hid hph
      clear hph
      generalize f.getD i 0 = X at ha x0 x1 HPH
      have ha2 : wr.cell? ⟨gf, i, none⟩ = some (.int .i64 X) := by
        rw [← ha]; congr 1; unfold Addr.add; split
        · simp
        · simp
      by_cases hs : (i + n) / 256 % 2 = 1
      · have t1 : (((i : Int) + n) / 256 % 2 == 1) = true := by rw [beq_iff_eq]; omega
        have hnx := Lib.hid (turn_next H1.out HR.out hlt hil (rSub_ok 0 X) (by rw [if_pos hs, phi_rSub, phi_zero, HPH.out]))
        clear hs
        go_wp2_with (go_at_call 34; refine (sub_any _ _ _).mono ?_; rintro e w' ⟨rfl, rfl⟩)
        go_roundw
        case rel => exact ⟨i + 1, by omega, by go_num, hnx.out⟩
        case measure => simp [intOf]; omega
      · have t1 : (((i : Int) + n) / 256 % 2 == 1) = false := by rw [beq_eq_false_iff_ne]; omega
        have hnx := Lib.hid (turn_next H1.out HR.out hlt hil (x := X) ⟨x0, x1⟩ (by rw [if_neg hs, HPH.out]))
        clear hs
        go_wp2
        go_roundw
        case rel => exact ⟨i + 1, by omega, by go_num, hnx.out⟩
        case measure => simp [intOf]; omega
    · have bi : decide ((i : Int) < 256) = false := by rw [decide_eq_false_iff_not]; omega
      have e : i = 256 := by omega
      subst e
      obtain ⟨hfr, hbr, l, hol, hpl, hsl⟩ := HR.out
      have HSL := Lib.hid (hsl.trans (turn_end n _))
      have HPL := Lib.hid hpl
      have HLN := Lib.hid (own_len hol)
      have HGR := Lib.hid (own_has hol)
      have HFR := Lib.hid hfr
      have BR := Lib.hid (B1.out.trans (hbr.mono B1.out.size))
      clear hfr hbr hol hpl hsl HR
      by_cases hq : n / 256 % 2 = 1
      · have HQ := Lib.hid hq
        have t2 : ((n : Int) / 256 % 2 == 1) = true := by rw [beq_iff_eq]; omega
        clear hq
        go_wp2_with fail
        refine (unit_as (n % 256) wr (by omega) (by omega)).mono ?_
        rintro e w3 ⟨g3, c3, rfl, ho, hb⟩
        have F3 := Lib.hid (has_next HFR.out hb)
        have G3 := Lib.hid (has_next HGR.out hb)
        have U3 := Lib.hid (own_read ho)
        have B3 := Lib.hid (BR.out.trans (hb.mono BR.out.size))
        clear ho hb
        go_wp2_with fail
        refine (pOver_res _ _ (unitL 256 (n % 256)) w3 U3.out (by rw [(unit_poly _).1]; omega)).mono ?_
        rintro e w4 ⟨A4, c4, rfl, ho, hb⟩
        have F4 := Lib.hid (has_next F3.out hb)
        have G4 := Lib.hid (has_next G3.out hb)
        have Z4 := Lib.hid (own_read ho)
        have B4 := Lib.hid (B3.out.trans (hb.mono B3.out.size))
        clear ho hb
        go_wp2_with (at_make; refine wpList_make_full _ rfl _ _ 22 rfl w4.heap.size 3 i0 (.int .i64 0) 1 Tryd.underlying22 hi0 hz0 hz1 _ _ _ _ N rfl rfl (by omega) (by omega) (by rw [hz2]; omega) (by unfold maxLen; omega) (Nat.le_refl _) ?_; intro w5 hown hgrow; rw [made_ints] at hown; have HO := Lib.hid hown; clear hown; have HG := Lib.hid hgrow; clear hgrow)
        have hb5 : Below w4.heap.size w4 w5 := (Below.refl _ _).grown HG.out (Nat.le_refl _) (by simp)
        have hz5 : Has w5 w5.heap.size (some ⟨w4.heap.size, 0, none⟩) zeroL := by
          have HOO := HO.out
          have e := HN.out
          rw [e] at HOO
          exact own_has HOO
        have Z5 := Lib.hid (has_next Z4.out hb5)
        have O5 := Lib.hid hz5
        have F5 := Lib.hid (has_next F4.out hb5)
        have G5 := Lib.hid (has_next G4.out hb5)
        have B5 := Lib.hid (B4.out.trans (hb5.mono B4.out.size))
        clear hb5 hz5 HO HG
        refine (pSub_len _ _ _ _ zeroL (one vOver (unitL 256 (n % 256))) _ w5 (by rw [zero_len]; exact HN.out.symm) O5.out Z5.out (by rw [zero_len]; omega) (by have := one_len vOver (unitL 256 (n % 256)); omega)).mono ?_
        rintro e w6 ⟨A6, c6, rfl, ho, hb⟩
        have F6 := Lib.hid (has_next F5.out hb)
        have G6 := Lib.hid (has_next G5.out hb)
        have Z6 := Lib.hid (own_read ho)
        have B6 := Lib.hid (B5.out.trans (hb.mono B5.out.size))
        clear ho hb
        go_wp2_with fail
        refine (pOver_res _ _ f w6 F6.out (by omega)).mono ?_
        rintro e w7 ⟨A7, c7, rfl, ho, hb⟩
        have G7 := Lib.hid (has_next G6.out hb)
        have Z7 := Lib.hid (has_next Z6.out hb)
        have F7 := Lib.hid (own_read ho)
        have B7 := Lib.hid (B6.out.trans (hb.mono B6.out.size))
        clear ho hb
        go_wp2_with fail
        refine (pTimes_res _ _ _ _ (one vOver f) (two vSub zeroL (one vOver (unitL 256 (n % 256)))) w7 F7.out Z7.out (by have := one_len vOver f; omega) (by have := two_len vSub zeroL (one vOver (unitL 256 (n % 256))); omega)).mono ?_
        rintro e w8 ⟨A8, c8, rfl, ho, hb⟩
        have G8 := Lib.hid (has_next G7.out hb)
        have T8 := Lib.hid (own_read ho)
        have B8 := Lib.hid (B7.out.trans (hb.mono B7.out.size))
        clear ho hb
        go_wp2_with fail
        refine (pOver_len _ _ l _ w8 HLN.out G8.out (by have := HLN.out; omega)).mono ?_
        rintro e w9 ⟨A9, c9, rfl, ho, hb⟩
        have G9 := Lib.hid (has_next G8.out hb)
        have T9 := Lib.hid (has_next T8.out hb)
        have R9 := Lib.hid (own_read ho)
        have B9 := Lib.hid (B8.out.trans (hb.mono B8.out.size))
        clear ho hb
        go_wp2_with fail
        refine (same_eq _ _ _ _ (two vTimes (one vOver f) (two vSub zeroL (one vOver (unitL 256 (n % 256))))) (one vOver l) w9 (turns_odd n hlt HQ.out P1.out HPL.out HSL.out) (by have := two_len vTimes (one vOver f) (two vSub zeroL (one vOver (unitL 256 (n % 256)))); omega) T9.out R9.out).mono ?_
        rintro e w10 ⟨rfl, n10, rfl⟩
        go_wp2_with fail
        refine (pMay_len _ _ l _ _ HLN.out (G9.out.drewN n10) (by have := HLN.out; omega)).mono ?_
        rw [mayB_yes HPL.out]
        rintro e w11 ⟨rfl, n11, rfl⟩
        go_wp2_with fail
        refine (awake_any _).mono ?_
        rintro e w12 ⟨rfl, hb⟩
        have B12 := Lib.hid ((below_drewN B9.out (n10 + n11)).trans (hb.mono (below_drewN B9.out (n10 + n11)).size))
        clear hb
        go_wp2
        go_ret
        exact ⟨rfl, B12.out⟩
      · have HQ := Lib.hid hq
        have t2 : ((n : Int) / 256 % 2 == 1) = false := by rw [beq_eq_false_iff_ne]; omega
        clear hq
        go_wp2_with fail
        refine (unit_as (n % 256) wr (by omega) (by omega)).mono ?_
        rintro e w3 ⟨g3, c3, rfl, ho, hb⟩
        have F3 := Lib.hid (has_next HFR.out hb)
        have G3 := Lib.hid (has_next HGR.out hb)
        have U3 := Lib.hid (own_read ho)
        have B3 := Lib.hid (BR.out.trans (hb.mono BR.out.size))
        clear ho hb
        go_wp2_with fail
        refine (pOver_res _ _ (unitL 256 (n % 256)) w3 U3.out (by rw [(unit_poly _).1]; omega)).mono ?_
        rintro e w4 ⟨A4, c4, rfl, ho, hb⟩
        have F4 := Lib.hid (has_next F3.out hb)
        have G4 := Lib.hid (has_next G3.out hb)
        have Z4 := Lib.hid (own_read ho)
        have B4 := Lib.hid (B3.out.trans (hb.mono B3.out.size))
        clear ho hb
        go_wp2_with fail
        refine (pOver_res _ _ f w4 F4.out (by omega)).mono ?_
        rintro e w7 ⟨A7, c7, rfl, ho, hb⟩
        have G7 := Lib.hid (has_next G4.out hb)
        have Z7 := Lib.hid (has_next Z4.out hb)
        have F7 := Lib.hid (own_read ho)
        have B7 := Lib.hid (B4.out.trans (hb.mono B4.out.size))
        clear ho hb
        go_wp2_with fail
        refine (pTimes_res _ _ _ _ (one vOver f) (one vOver (unitL 256 (n % 256))) w7 F7.out Z7.out (by have := one_len vOver f; omega) (by have := one_len vOver (unitL 256 (n % 256)); omega)).mono ?_
        rintro e w8 ⟨A8, c8, rfl, ho, hb⟩
        have G8 := Lib.hid (has_next G7.out hb)
        have T8 := Lib.hid (own_read ho)
        have B8 := Lib.hid (B7.out.trans (hb.mono B7.out.size))
        clear ho hb
        go_wp2_with fail
        refine (pOver_len _ _ l _ w8 HLN.out G8.out (by have := HLN.out; omega)).mono ?_
        rintro e w9 ⟨A9, c9, rfl, ho, hb⟩
        have G9 := Lib.hid (has_next G8.out hb)
        have T9 := Lib.hid (has_next T8.out hb)
        have R9 := Lib.hid (own_read ho)
        have B9 := Lib.hid (B8.out.trans (hb.mono B8.out.size))
        clear ho hb
        go_wp2_with fail
        refine (same_eq _ _ _ _ (two vTimes (one vOver f) (one vOver (unitL 256 (n % 256)))) (one vOver l) w9 (turns_even n hlt HQ.out P1.out HPL.out HSL.out) (by have := two_len vTimes (one vOver f) (one vOver (unitL 256 (n % 256))); omega) T9.out R9.out).mono ?_
        rintro e w10 ⟨rfl, n10, rfl⟩
        go_wp2_with fail
        refine (pMay_len _ _ l _ _ HLN.out (G9.out.drewN n10) (by have := HLN.out; omega)).mono ?_
        rw [mayB_yes HPL.out]
        rintro e w11 ⟨rfl, n11, rfl⟩
        go_wp2_with fail
        refine (awake_any _).mono ?_
        rintro e w12 ⟨rfl, hb⟩
        have B12 := Lib.hid ((below_drewN B9.out (n10 + n11)).trans (hb.mono (below_drewN B9.out (n10 + n11)).size))
        clear hb
        go_wp2
        go_ret
        exact ⟨rfl, B12.out⟩
end Go.Proofs.YtmjcgkddjgplkaaDoor
