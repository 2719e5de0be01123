/- Contracts: a step of the program's way back with one root, and the way back. -/
import Derived.Test.YtneopnlklhcopaaPd
import Derived.Test.YtneopnlklhcopaaG
namespace Go.Proofs.Ytneopnlklhcopaa
open Go.RowKit Slices Go.Proofs.Ytneopnlklhcopaa.Ring

theorem pairB_turn {w wr : World} {N g c : Nat} {F : V} {L Q S M k : Nat} {l : List Int} (hm : MidB w N g c F L Q S M wr) (hI : 256 / L = 2 * Q) (hL : 1 ≤ L) (h1 : k < L) (h2 : S + k + L < 256)
    {wi : World} (hown : wi.ownsRow w.heap.size 3 1 (.slice (some ⟨g, 0, none⟩) N c) N (ints l)) (hp : IsPoly l) (hs : Same (vec l) (MixB L F S (S + k))) (hb : Below w.heap.size w wi)
    {z X Y : Int} (hz : phi (-z) = zr (M - 1)) (hX : X = l.getD (S + k) 0) (hY : Y = l.getD (S + L + k) 0) :
    Holds w N g c (MixB L F S (S + (k + 1))) ((wi.setCell ⟨g, S + k, none⟩ (.int .i64 (rOf (X + Y)))).setCell ⟨g, S + L + k, none⟩ (.int .i64 (rOf (z * (X - Y))))) := by
  have e : S + L + k = S + k + L := by omega
  rw [e] at hY ⊢
  have ez : z * (X - Y) = (-z) * (Y - X) := by rw [Int.neg_mul, ← Int.mul_neg, Int.neg_sub]
  exact pairB_next hm hI hL (Nat.le_add_right _ k) (by omega) h2 hown hp hs hb (z := -z) hz (by rw [phi_of, ez, phi_mul, phi_sub, ← hX, ← hY]) (by rw [phi_of, phi_add, ← hX, ← hY]) (rem_ok _) (rem_ok _)

theorem diff_bd {z x y : Int} (z0 : -8380416 ≤ z) (z1 : z ≤ 0) (x0 : 0 ≤ x) (x1 : x ≤ 8380416) (y0 : 0 ≤ y) (y1 : y ≤ 8380416) : -70231372333056 ≤ z * (x - y) ∧ z * (x - y) ≤ 70231372333056 := by
  have ez : z * (x - y) = (-z) * y - (-z) * x := by rw [← Int.mul_sub, Int.neg_mul, ← Int.mul_neg, Int.neg_sub]
  rw [ez]
  have h1 := prod_bd (-z) y (by omega) (by omega) y0 y1
  have h2 := prod_bd (-z) x (by omega) (by omega) x0 x1
  omega

set_option maxRecDepth 100000 in
set_option maxHeartbeats 2000000 in
theorem join_any {w wr : World} {N g c c1 c2 : Nat} {F : V} {L Q S M : Nat} {z : Int} (hm : MidB w N g c F L Q S M wr) (hI : 256 / L = 2 * Q) (hL : 1 ≤ L) (h2 : S + 2 * L ≤ 256) (hN : N = 256) (hz : z = - rRoot ((M - 1 : Nat) : Int)) :
    Calls Try.prog 43 #[.slice (some ⟨g, S, none⟩) L c1, .slice (some ⟨g, S + L, none⟩) L c2, .int .i64 z] wr fun e w' => e = .returned (.tuple #[]) ∧ Holds w N g c (MixB L F S (S + L)) w' ∧ Rest g wr w' := by
  have hL2 : L ≤ 128 := by omega
  obtain ⟨r0, r1⟩ := rRoot_ok ((M - 1 : Nat) : Int)
  have z0 : -8380416 ≤ z := by omega
  have z1 : z ≤ 0 := by omega
  have hst : Holds w N g c (MixB L F S (S + 0)) wr := by obtain ⟨b, rfl, _, _, hh⟩ := hm; exact hh
  have HST := Lib.hid hst
  have HM := Lib.hid hm
  have HI := Lib.hid hI
  have HZ : Hid (phi (-z) = zr (M - 1)) := by rw [hz, Int.neg_neg]; rfl
  clear hst hm hI hz r0 r1
  go_enter Try.func43, Try.ntmps43
  go_wp2
  go_loopw [11] (fun i wj => ∃ k : Nat, k ≤ L ∧ i = .int .i64 k ∧ Holds w N g c (MixB L F S (S + k)) wj ∧ Rest g wr wj) (fun i _ => L - (intOf i).toNat)
  case atStart => exact ⟨0, by omega, rfl, HST.out, Rest.refl _ _⟩
  case round =>
    rename World => wj
    obtain ⟨k, hk, rfl, hh, hr⟩ := hrel
    have HH := Lib.hid hh
    have HR := Lib.hid hr
    clear hh HST hr
    by_cases hlt : k < L
    · obtain ⟨cur, hown, hpol, hsame, hbel⟩ := HH.out
      have cX := own_cell hown (k := S + k) (by omega)
      have cY := own_cell hown (k := S + L + k) (by omega)
      have fX := hown.frozenAt (S + k)
      have fY := hown.frozenAt (S + L + k)
      obtain ⟨x0, x1⟩ := hpol.2 (S + k) (by omega)
      obtain ⟨y0, y1⟩ := hpol.2 (S + L + k) (by omega)
      have hnx := pairB_turn (l := cur) HM.out HI.out hL hlt (by omega) hown hpol hsame hbel HZ.out rfl rfl
      have HNX := Lib.hid hnx
      clear hown hpol hsame hbel hnx
      generalize cur.getD (S + k) 0 = X at cX x0 x1 HNX
      generalize cur.getD (S + L + k) 0 = Y at cY y0 y1 HNX
      obtain ⟨q0, q1⟩ := diff_bd z0 z1 x0 x1 y0 y1
      go_wp2_with (go_at_call 37; refine (of_any _ _).mono ?_; rintro e w' ⟨rfl, rfl⟩)
      go_roundw
      case rel => exact ⟨k + 1, by omega, by go_num, HNX.out, (HR.out.put _ _).put _ _⟩
      case measure => simp [intOf]; omega
    · go_wp2
      go_end0
      have e : k = L := by omega
      subst e
      exact ⟨rfl, HH.out, HR.out⟩

theorem outB_big {w wr : World} {N g c : Nat} {f : V} {L I : Nat} (h : OutB w N g c f L I wr) : 128 < L → L = 256 := by
  obtain ⟨m, hm, rfl, rfl, hh⟩ := h
  have hm' : m = 0 ∨ m = 1 ∨ m = 2 ∨ m = 3 ∨ m = 4 ∨ m = 5 ∨ m = 6 ∨ m = 7 ∨ m = 8 := by omega
  rcases hm' with rfl | rfl | rfl | rfl | rfl | rfl | rfl | rfl | rfl <;> decide
theorem MidB.drewN {w wr : World} {N g c : Nat} {F : V} {L Q S I : Nat} (h : MidB w N g c F L Q S I wr) (n : Nat) : MidB w N g c F L Q S I (wr.drewN n) := by
  obtain ⟨b, e1, e2, e3, hh⟩ := h
  exact ⟨b, e1, e2, e3, hh.drewN n⟩
theorem scale_turn {w wr : World} {N g c k : Nat} {f : V} (h : Holds w N g c (MixS f k) wr) (hk : k < 256) :
    ∃ l : List Int, wr.ownsRow w.heap.size 3 1 (.slice (some ⟨g, 0, none⟩) N c) N (ints l) ∧ okN (l.getD k 0) ∧ Holds w N g c (MixS f (k + 1)) (wr.setCell ⟨g, k, none⟩ (.int .i64 (rOf (8347681 * l.getD k 0)))) := by
  obtain ⟨l, a, b, d⟩ := scale_next h hk
  exact ⟨l, a, b, by rw [Int.mul_comm]; exact d⟩

set_option maxRecDepth 100000 in
set_option maxHeartbeats 2000000 in
theorem pBack_yes (A : Option Addr) (c : Nat) (l : List Int) (w : World) (h : Has w w.heap.size A l) (hp : IsPoly l) :
    Calls Try.prog 16 #[.slice A l.length c] w (Gives w (toL (vBack (vec l)))) := by
  obtain ⟨hz, hi⟩ := zero_of_info Try.info41
  have HI41 := Lib.hid hi
  have n0 : l.length ≤ 256 := by rw [hp.1]; exact Nat.le_refl _
  have n1 : 256 ≤ l.length := by rw [hp.1]; exact Nat.le_refl _
  have HP := Lib.hid hp
  obtain ⟨a, rfl, hb, _⟩ := h.addr (by omega)
  have H := Lib.hid h
  clear h hp hi
  go_enter Try.func16, Try.ntmps16
  go_wp2_with (first
    | (go_at_call 24; refine (pMay_yes _ _ _ _ _ H.out HP.out).mono ?_; rintro e w' ⟨rfl, n, rfl⟩)
    | (go_at_call 40; refine (clone_any a c l (w.drewN n) H.out (by omega) (by omega)).mono ?_; rintro e w1 ⟨g, c1, rfl, ho, hb1⟩; have HO := Lib.hid ho; have HB1 := Lib.hid hb1; clear ho hb1)
    | (go_at_call 41; refine (roots_any _).mono ?_; rintro e w2 ⟨rfl, hb2⟩; have HB2 := Lib.hid hb2; clear hb2)
    | (refine wpList_store_row rfl 41 _ _ rfl w2.heap.size (rootsTo 256) rfl rfl 41 (Array.replicate 256 (.int .i64 0)) (heap_alloc_new w2 _) (by rw [rootsTo_size]; exact HI41.out) (by rw [rootsTo_size, Array.size_replicate]) (rootsTo_one 256) ?_))
  have hs := start_at (v := bl 0 (vec l)) (w := w) ⟨l, HO.out, HP.out, Same.refl _, (below_drewN (Below.refl _ _) n).trans HB1.out⟩ HB2.out
  generalize hz0 : w2.heap.size = z0 at hs
  generalize World.setRow _ _ _ = w3 at hs ⊢
  obtain ⟨hs1, hs2, hg⟩ := hs
  have hcap := own_cap HO.out
  have HS := Lib.hid hs1
  have HZ := Lib.hid hs2
  clear hs1 hs2 HO HB1 HB2 hz hz0
  generalize l.length = N at n0 n1 HS hcap
  go_loopw [5, 6] (fun i n wr => ∃ L M : Nat, i = .int .i64 M ∧ n = .int .i64 L ∧ OutB w N g c1 (vec l) L M wr ∧ Zed z0 wr) (fun _ n _ => 257 - (intOf n).toNat)
  case atStart => exact ⟨1, 256, rfl, rfl, ⟨0, by decide, by decide, by decide, HS.out⟩, HZ.out⟩
  case round =>
    obtain ⟨L, M, rfl, rfl, ho, hz⟩ := hrel
    obtain ⟨o1, o2, o3, o5, o6⟩ := outB_facts ho
    have o7 := outB_big ho
    have HO := Lib.hid ho
    have H5 := Lib.hid o5
    have H6 := Lib.hid o6
    have H7 := Lib.hid o7
    have HZr := Lib.hid hz
    clear ho o5 o6 o7 hz HS HZ
    by_cases hL : L ≤ 128
    · obtain ⟨F, Q, hF, q0, q1, hI, hI1, hI2, hnext⟩ := H5.out hL
      have HF := Lib.hid hF
      have HI := Lib.hid hI
      have HI1 := Lib.hid hI1
      have HI2 := Lib.hid hI2
      have HN := Lib.hid hnext
      clear hF hI hI1 hI2 hnext
      have bL : decide ((L : Int) < 256) = true := by rw [decide_eq_true_iff]; omega
      go_wp2
      go_loopw [5, 7] (fun i s wr => ∃ M' S : Nat, i = .int .i64 M' ∧ s = .int .i64 S ∧ MidB w N g c1 F L Q S M' wr ∧ Zed z0 wr) (fun _ s _ => 256 - (intOf s).toNat)
      case atStart => exact ⟨M, 0, rfl, rfl, ⟨0, by omega, by have := HI.out; omega, by omega, by rw [mixB_start]; exact HF.out⟩, HZr.out⟩
      case round =>
        obtain ⟨M', S, rfl, rfl, hm, hz⟩ := hrel
        obtain ⟨m1, m2, m4, m5⟩ := midB_facts hm o1 q0 HI2.out
        have HM := Lib.hid hm
        have H4 := Lib.hid m4
        have HE := Lib.hid m5
        have HZ := Lib.hid hz
        clear hm m4 m5 hz HZr
        by_cases hS : S < 256
        · obtain ⟨hS2, hM1⟩ := H4.out hS
          have bS : decide ((S : Int) < 256) = true := by rw [decide_eq_true_iff]; omega
          have hM2 : M' - 1 < 256 := by omega
          go_wp2
          have s1 : (0 : Int) ≤ (S : Int) := by omega
          have s2 : (S : Int) ≤ (S : Int) + (L : Int) := by omega
          have s3 : (S : Int) + (L : Int) ≤ (c1 : Int) := by omega
          have s4 : (S : Int) + (L : Int) + (L : Int) ≤ (c1 : Int) := by omega
          have s5 : IntKind.i64.wrap ((S : Int) + (L : Int) + (L : Int)) = (S : Int) + (L : Int) + (L : Int) := IntWalk.i64_in _ (by omega)
          have s6 : (0 : Int) ≤ (S : Int) + (L : Int) := by omega
          have s7 : (0 : Int) ≤ (S : Int) + (L : Int) + (L : Int) := by omega
          have s8 : (S : Int) + (L : Int) ≤ max ((S : Int) + (L : Int) + (L : Int)) 0 := by omega
          have s9 : ¬ c1 = S := by omega
          have s10 : ¬ c1 = S + L := by omega
          have s11 : ((S : Int) + (L : Int)).toNat = S + L := by omega
          have s12 : ((S : Int) + (L : Int) + (L : Int)).toNat = S + L + L := by omega
          have s13 : ((M' : Int) - 1).toNat = M' - 1 := by omega
          have s14 : (0 : Int) ≤ (M' : Int) - 1 := by omega
          have s15 : (M' : Int) - 1 < 256 := by omega
          have s17 : (1 : Int) ≤ (M' : Int) := by omega
          refine wp_region_still_tail 14 (by kernel_rfl) (by kernel_rfl) ?_
          change wpStill _ _ (World.drew _) (fun a' => wpList _ _ _ _ a' (World.drew _)) _ _
          generalize hW : World.drew wr = w4
          have M2 : Hid (MidB w N g c1 F L Q S M' w4) := by rw [← hW]; exact HM.out.drewN 1
          have Z2 : Hid (Zed z0 w4) := by rw [← hW]; exact HZ.out.drewN 1
          have cZ := Z2.out.cell (j := M' - 1) hM2
          obtain ⟨y0, y1⟩ := rRoot_ok ((M' - 1 : Nat) : Int)
          clear hW HM HZ
          generalize hz : rRoot ((M' - 1 : Nat) : Int) = z at cZ y0 y1
          have HZZ := Lib.hid hz
          clear hz
          have s16 : IntKind.i64.wrap (-z) = -z := IntWalk.i64_in _ (by omega)
          simp only [List.take_succ_cons, List.take_zero, List.drop_succ_cons, List.drop_zero]
          repeat still_step
          refine wpStill_nil ?_
          clear s1 s2 s3 s4 s5 s6 s7 s8 s9 s10 s11 s12 s13 s14 s15 s16 s17
          go_wp2_with fail
          refine (join_any M2.out HI1.out o1 (by omega) (by omega) (congrArg _ HZZ.out.symm)).mono ?_
          rintro e w5 ⟨rfl, hh, hr⟩
          have HH := Lib.hid hh
          have HR := Lib.hid hr
          clear hh hr cZ
          go_wp2
          go_roundw
          case rel => exact ⟨M' - 1, S + 2 * L, by go_num, by go_num, midB_next M2.out hS hM1 HI2.out HH.out, Z2.out.rest hg HR.out⟩
          case measure => simp [intOf]; omega
        · go_wp2
          go_roundw
          case rel =>
            obtain ⟨e1, e2⟩ := HE.out (by omega)
            subst e2
            exact ⟨2 * L, M', rfl, by go_num, HN.out _ e1, HZ.out⟩
          case measure => simp [intOf]; omega
    · have hfin : Holds w N g c1 (MixS (bl 8 (vec l)) 0) wr := by rw [scale_start]; exact H6.out (by omega)
      have HFN := Lib.hid hfin
      clear hfin
      have bL : decide ((L : Int) < 256) = false := by have := H7.out (by omega); rw [decide_eq_false_iff_not]; omega
      go_wp2
      go_loopw [49] (fun j wj => ∃ J : Nat, J ≤ 256 ∧ j = .int .i64 J ∧ Holds w N g c1 (MixS (bl 8 (vec l)) J) wj) (fun j _ => 256 - (intOf j).toNat)
      case atStart => exact ⟨0, by omega, rfl, HFN.out⟩
      case round =>
        obtain ⟨J, j1, rfl, hh⟩ := hrel
        have HH := Lib.hid hh
        clear hh HFN
        by_cases hJ : J < 256
        · obtain ⟨cur, hown, hok, hnx⟩ := scale_turn HH.out hJ
          have cX := own_cell hown (k := J) (by omega)
          have fX := hown.frozenAt J
          obtain ⟨x0, x1⟩ := hok
          have HNX := Lib.hid hnx
          clear hown hnx
          generalize cur.getD J 0 = X at cX x0 x1 HNX
          go_wp2_with (go_at_call 37; refine (of_any _ _).mono ?_; rintro e w' ⟨rfl, rfl⟩)
          go_roundw
          case rel => exact ⟨J + 1, by omega, by go_num, HNX.out⟩
          case measure => simp [intOf]; omega
        · go_wp2
          go_ret
          have e : J = 256 := by omega
          subst e
          exact (HH.out.same (scale_end _)).gives
end Go.Proofs.Ytneopnlklhcopaa
