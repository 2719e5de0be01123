/- Contract: the document's own way over, walked. -/
import Derived.Test.YtneopnlklhcopaaD
namespace Go.Proofs.Ytneopnlklhcopaa
open Go.RowKit Slices Go.Proofs.Ytneopnlklhcopaa.Ring

theorem refRoot_as {i z : Int} (hz : z = rRoot i) (w : World) :
    Calls Try.prog 27 #[.int .i64 i] w fun e w' => e = .returned (.int .i64 z) ∧ w = w' := by
  rw [hz]; exact refRoot_any i w

set_option maxRecDepth 100000 in
set_option maxHeartbeats 2000000 in
theorem refOver_yes (A : Option Addr) (c : Nat) (l : List Int) (w : World) (h : Has w w.heap.size A l) (hp : IsPoly l) :
    Calls Try.prog 21 #[.slice A l.length c] w (Gives w (toL (vOver (vec l)))) := by
  obtain ⟨i0, hi0, hz0, hz1, hz2⟩ := info_parts Try.info3
  have n0 : l.length ≤ 256 := by rw [hp.1]; exact Nat.le_refl _
  have n1 : 256 ≤ l.length := by rw [hp.1]; exact Nat.le_refl _
  have HP := Lib.hid hp
  obtain ⟨a, rfl, hb, hc⟩ := h.addr (by omega)
  have H := Lib.hid h
  have HC := Lib.hid hc
  clear h hp hc
  go_enter Try.func21, Try.ntmps21
  go_wp2_with (first
    | (go_at_call 25; refine (may_yes _ _ _ _ _ H.out HP.out).mono ?_; rintro e w' ⟨rfl, n, rfl⟩)
    | (at_builtin; refine wpList_append_own _ rfl _ _ 22 rfl w.heap.size 3 i0 (.int .i64 0) 1 8 Try.underlying22 hi0 hz0 hz1 hz2 rfl (by decide) _ _ _ rfl (World.ownsRow_nil _ _ _ _) a l.length c (ints l) rfl (by rw [ints_length]; omega) (by intro j u hu; exact HC.out j u hu) (ints_one l) (by unfold maxLen; omega) (by omega) (Nat.le_refl _) ?_; intro v1 w1 hown hgrow hnil; clear hnil; rw [List.nil_append, Nat.zero_add] at hown; obtain ⟨g, c1, rfl, hg⟩ := own_form hown (by omega); have HO := Lib.hid hown; clear hown; have HG := Lib.hid hgrow; clear hgrow))
  have hs : Holds w l.length g c1 (lv 0 (vec l)) w1 := ⟨l, HO.out, HP.out, Same.refl _, (below_drewN (Below.refl _ _) _).grown HG.out (Nat.le_refl _) (fun k hk => by cases hk)⟩
  have HS := Lib.hid hs
  clear hs HO HG
  generalize l.length = N at n0 n1 HS
  go_loopw [4, 5] (fun i n wr => ∃ L M : Nat, i = .int .i64 M ∧ n = .int .i64 L ∧ OutRel w N g c1 (vec l) L M wr) (fun _ n _ => (intOf n).toNat)
  case atStart => exact ⟨128, 0, rfl, rfl, 0, by decide, by decide, rfl, HS.out⟩
  case round =>
    obtain ⟨L, M, rfl, rfl, ho⟩ := hrel
    obtain ⟨o1, o2, o5, o6⟩ := out_facts ho
    have HO := Lib.hid ho
    have H5 := Lib.hid o5
    have H6 := Lib.hid o6
    clear ho o5 o6
    by_cases hL : 1 ≤ L
    · obtain ⟨F, I0, hF, i1, hI, hM, hI2, hnext⟩ := H5.out hL
      have HF := Lib.hid hF
      have HI := Lib.hid hI
      have HM0 := Lib.hid hM
      have HI2 := Lib.hid hI2
      have HN := Lib.hid hnext
      clear hF hI hM hI2 hnext
      have bL : decide (1 ≤ (L : Int)) = true := by rw [decide_eq_true_iff]; omega
      go_wp2
      go_loopw [4, 6] (fun i s wr => ∃ M' S : Nat, i = .int .i64 M' ∧ s = .int .i64 S ∧ MidRel w N g c1 F L I0 S M' wr) (fun _ s _ => 256 - (intOf s).toNat)
      case atStart => exact ⟨M, 0, rfl, rfl, 0, by omega, by have := HM0.out; omega, by omega, by rw [mix_start]; exact HF.out⟩
      case round =>
        obtain ⟨M', S, rfl, rfl, hm⟩ := hrel
        obtain ⟨m1, m2, m4, m5⟩ := mid_facts hm hL HI2.out
        have HM := Lib.hid hm
        have H4 := Lib.hid m4
        have HE := Lib.hid m5
        clear hm m4 m5
        by_cases hS : S < 256
        · have hS2 := H4.out hS
          have bS : decide ((S : Int) < 256) = true := by rw [decide_eq_true_iff]; omega
          obtain ⟨z, hz⟩ : ∃ z, z = rRoot ((M' : Int) + 1) := ⟨_, rfl⟩
          have HZ := Lib.hid hz
          clear hz
          go_wp2_with (go_at_call 27; refine (refRoot_as HZ.out _).mono ?_; rintro e w' ⟨rfl, rfl⟩)
          obtain ⟨z0, z1⟩ : okN z := by rw [HZ.out]; exact rRoot_ok _
          have hpz : phi z = zr (M' + 1) := by rw [HZ.out]; rfl
          have HPZ := Lib.hid hpz
          clear hpz
          have hst : Holds w N g c1 (Mix L F S S) wr := by obtain ⟨b, rfl, _, _, hh⟩ := HM.out; exact hh
          have HST := Lib.hid hst
          clear hst
          go_loopw [8] (fun j wj => ∃ J : Nat, S ≤ J ∧ J ≤ S + L ∧ j = .int .i64 J ∧ Holds w N g c1 (Mix L F S J) wj) (fun j _ => S + L - (intOf j).toNat)
          case atStart => exact ⟨S, by omega, by omega, rfl, HST.out⟩
          case round =>
            obtain ⟨J, j0, j1, rfl, hh⟩ := hrel
            have HH := Lib.hid hh
            clear hh HST
            by_cases hJ : J < S + L
            · obtain ⟨cur, hown, hpol, hsame, hbel⟩ := HH.out
              have cX := own_cell hown (k := J) (by omega)
              have cY := own_cell hown (k := J + L) (by omega)
              have fX := hown.frozenAt J
              have fY := hown.frozenAt (J + L)
              obtain ⟨x0, x1⟩ := hpol.2 J (by omega)
              obtain ⟨y0, y1⟩ := hpol.2 (J + L) (by omega)
              have hpair := near_pair (cur.getD J 0) (cur.getD (J + L) 0) z
              have hnx := fun u v => pair_next (l := cur) (z := z) (u := u) (v := v) HM.out HI.out hL j0 hJ (by omega) hown hpol hsame hbel HPZ.out
              have HNX := Lib.hid hnx
              have HPR := Lib.hid hpair
              clear hown hpol hsame hbel hnx hpair
              generalize cur.getD J 0 = X at cX x0 x1 HNX HPR
              generalize cur.getD (J + L) 0 = Y at cY y0 y1 HNX HPR
              obtain ⟨q0, q1⟩ := prod_bd z Y z0 z1 y0 y1
              go_wp2
              go_roundw
              case rel => exact ⟨J + 1, by omega, by omega, by go_num, HNX.out _ _ HPR.out.1 HPR.out.2 (rem_ok _) (rem_ok _)⟩
              case measure => simp [intOf]; omega
            · go_wp2
              go_roundw
              case rel =>
                have e : J = S + L := by omega
                subst e
                exact ⟨M' + 1, S + 2 * L, by go_num, by go_num, mid_next HM.out hS HI2.out HH.out⟩
              case measure => simp [intOf]; omega
        · go_wp2
          go_roundw
          case rel =>
            obtain ⟨e1, e2⟩ := HE.out (by omega)
            subst e2
            exact ⟨L / 2, 2 * I0 - 1, rfl, by go_num, HN.out _ e1⟩
          case measure => simp [intOf]; omega
    · go_wp2
      go_ret
      exact (H6.out (by omega)).gives
end Go.Proofs.Ytneopnlklhcopaa
