/- The law PolyProducts, walked. -/
import Derived.Test.YtneopnlklhcopaaY
import Derived.Test.YtneopnlklhcopaaT
import Derived.Deep.RegionHeld3
import Derived.Test.YtneopnlklhcopaaPolyK
import Derived.Deep.DeepCutAuto
namespace Go.Proofs.Ytneopnlklhcopaa
open Go.RowKit Slices Go.Proofs.Ytneopnlklhcopaa.Ring

theorem make256 : ∃ Z : Array Value, Z.toList = ints zeroL ∧ Z.size = 256 ∧ ∀ w : World, (Instr.makeSlice 22 (.int .i64 256) (.int .i64 256)).run Try.prog w = .ok (.slice (some ⟨w.heap.size, 0, none⟩) 256 256) (w.alloc (.cells Z 3)) := by
  obtain ⟨i0, hi0, hz0, hz1, hz2⟩ := info_parts Try.info3
  refine ⟨madeCells (Value.int IntKind.i64 0).cells (256 * 1), made_ints 256, size_madeCells _ _, fun w => ?_⟩
  have := run_make (P := Try.prog) w 22 3 i0 (.int .i64 0) Try.underlying22 hi0 hz0 .i64 .i64 256 256 (by omega) (by omega) (by rw [hz2]; omega) (by omega)
  rw [hz1] at this
  exact this
/-- what the first statement leaves: a poly, and a list of zeros -/
def Two (w : World) (s7 s8 : Value) (wx : World) : Prop :=
  ∃ f gf cf g8, s7 = .slice (some ⟨gf, 0, none⟩) (List.length f) cf ∧ s8 = .slice (some ⟨g8, 0, none⟩) 256 256 ∧ IsPoly f ∧ wx.ownsRow w.heap.size 3 1 (.slice (some ⟨gf, 0, none⟩) f.length cf) f.length (ints f) ∧
    wx.ownsRow w.heap.size 3 1 (.slice (some ⟨g8, 0, none⟩) 256 256) 256 (ints zeroL) ∧ gf ≠ g8 ∧ Below w.heap.size w wx

/-- three lists of the call's own: f, and those at g8, g9 -/
def Three (w : World) (f : List Int) (gf cf g8 g9 : Nat) (G W : List Int) (wr : World) : Prop :=
  wr.ownsRow w.heap.size 3 1 (.slice (some ⟨gf, 0, none⟩) f.length cf) f.length (ints f) ∧ wr.ownsRow w.heap.size 3 1 (.slice (some ⟨g8, 0, none⟩) 256 256) 256 (ints G) ∧
    wr.ownsRow w.heap.size 3 1 (.slice (some ⟨g9, 0, none⟩) 256 256) 256 (ints W) ∧ gf ≠ g8 ∧ gf ≠ g9 ∧ g8 ≠ g9 ∧ IsPoly G ∧ IsPoly W ∧ Below w.heap.size w wr
theorem own_other {w : World} {B g g' n c j : Nat} {xs : List Value} (h : w.ownsRow B 3 1 (.slice (some ⟨g, 0, none⟩) n c) n xs) {u : Value} (hne : g ≠ g') : (w.setCell ⟨g', j, none⟩ u).ownsRow B 3 1 (.slice (some ⟨g, 0, none⟩) n c) n xs :=
  h.kept (row := some g') ⟨rfl, rfl, rfl, by simp [World.setCell], fun k _ hk => Below.heap_setCell w ⟨g', j, none⟩ u k (fun e => hk (by rw [e]))⟩ (.inr fun e => hne (by injection e))
theorem Three.set8 {w wr : World} {f G W : List Int} {gf cf g8 g9 : Nat} (h : Three w f gf cf g8 g9 G W wr) (j : Nat) {x : Int} (ox : okN x) : Three w f gf cf g8 g9 (G.set j x) W (wr.setCell ⟨g8, j, none⟩ (.int .i64 x)) := by
  obtain ⟨h1, h2, h3, e1, e2, e3, p1, p2, hb⟩ := h
  exact ⟨own_other h1 e1, own_set h2 j x, own_other h3 (Ne.symm e3), e1, e2, e3, set_poly p1 j ox, p2, hb.setCell (own_block h2).1 _⟩
theorem Three.set9 {w wr : World} {f G W : List Int} {gf cf g8 g9 : Nat} (h : Three w f gf cf g8 g9 G W wr) (j : Nat) {x : Int} (ox : okN x) : Three w f gf cf g8 g9 G (W.set j x) (wr.setCell ⟨g9, j, none⟩ (.int .i64 x)) := by
  obtain ⟨h1, h2, h3, e1, e2, e3, p1, p2, hb⟩ := h
  exact ⟨own_other h1 e2, own_other h2 e3, own_set h3 j x, e1, e2, e3, p1, set_poly p2 j ox, hb.setCell (own_block h3).1 _⟩
theorem Three.drewN {w wr : World} {f G W : List Int} {gf cf g8 g9 : Nat} (h : Three w f gf cf g8 g9 G W wr) (n : Nat) : Three w f gf cf g8 g9 G W (wr.drewN n) := by
  obtain ⟨h1, h2, h3, e1, e2, e3, p1, p2, hb⟩ := h
  exact ⟨h1, h2, h3, e1, e2, e3, p1, p2, below_drewN hb n⟩

theorem same_len (A A' : Option Addr) (c c' : Nat) (l l' : List Int) (n : Nat) (w : World) (he : l = l') (hn : l'.length = n) (h : Has w w.heap.size A l) (h' : Has w w.heap.size A' l') (hl : n = 256 := by rfl) :
    Calls Try.prog 18 #[.slice A l.length c, .slice A' n c'] w fun e w' => e = .returned (.bool true) ∧ ∃ n, w' = w.drewN n := by
  subst he
  subst hn
  exact same_true A A' c c' w.heap.size l w (by omega) h h'
theorem zero_own {w : World} {B : Nat} {Z : Array Value} (hZ : Z.toList = ints zeroL) (hs : Z.size = 256) (hB : B ≤ w.heap.size) : (w.alloc (.cells Z 3)).ownsRow B 3 1 (.slice (some ⟨w.heap.size, 0, none⟩) 256 256) 256 (ints zeroL) := by
  rw [← hZ]; exact World.ownsRow_lit w Z 256 hB (by unfold maxLen; omega) (by omega)
theorem two_low {w w' : World} {Z : Array Value} {f : List Int} {gf cf : Nat} (hZ : Z.toList = ints zeroL) (hs : Z.size = 256) (hp : IsPoly f) (ho : w'.ownsRow w.heap.size 3 1 (.slice (some ⟨gf, 0, none⟩) f.length cf) f.length (ints f)) (hb : Below w.heap.size w w') :
    Two w (.slice (some ⟨gf, 0, none⟩) f.length cf) (.slice (some ⟨w'.heap.size, 0, none⟩) 256 256) (w'.alloc (.cells Z 3)) := by
  have ba : Below w'.heap.size w' (w'.alloc (.cells Z 3)) := (Below.refl _ _).alloc (Nat.le_refl _) _
  exact ⟨f, gf, cf, w'.heap.size, rfl, rfl, hp, own_next ho ba, zero_own hZ hs hb.size, by have := (own_block ho).2; omega, hb.trans (ba.mono hb.size)⟩
theorem two_make {w w' : World} {Z : Array Value} {f : List Int} {gf cf : Nat} (hZ : Z.toList = ints zeroL) (hs : Z.size = 256) (hp : IsPoly f) (ho : w'.ownsRow (w.alloc (.cells Z 3)).heap.size 3 1 (.slice (some ⟨gf, 0, none⟩) f.length cf) f.length (ints f)) (hb : Below (w.alloc (.cells Z 3)).heap.size (w.alloc (.cells Z 3)) w') :
    Two w (.slice (some ⟨gf, 0, none⟩) f.length cf) (.slice (some ⟨w.heap.size, 0, none⟩) 256 256) w' := by
  have ba : Below w.heap.size w (w.alloc (.cells Z 3)) := (Below.refl _ _).alloc (Nat.le_refl _) _
  have hsz : (w.alloc (.cells Z 3)).heap.size = w.heap.size + 1 := by simp
  exact ⟨f, gf, cf, w.heap.size, rfl, rfl, hp, own_base ho ba.size, own_next (zero_own hZ hs (Nat.le_refl _)) hb, by have := (own_block ho).1; omega, ba.trans (hb.mono ba.size)⟩

set_option maxRecDepth 100000 in
set_option maxHeartbeats 8000000 in
theorem products_small (A A' A'' : Option Addr) (c c' c'' : Nat) (ns at_ xs : List Int) (w : World) (hf : Has w w.heap.size A ns) (hg : Has w w.heap.size A' at_) (hh : Has w w.heap.size A'' xs) (h1 : ns.length ≤ 300) (h2 : at_.length ≤ 4) (_h3 : xs.length ≤ 4611686018427387904) (TB : Hid (Tab w)) :
    Calls Try.prog 7 #[.slice A ns.length c, .slice A' at_.length c', .slice A'' xs.length c''] w fun e w' => e = .returned (.bool true) ∧ Below w.heap.size w w' := by
  obtain ⟨i0, hi0, hz0, hz1, hz2⟩ := info_parts Try.info3
  have HF := Lib.hid hf
  have HG := Lib.hid hg
  have HH := Lib.hid hh
  clear hf hg hh
  obtain ⟨Z, hZ, hZs, hmk⟩ := make256
  have HZ := Lib.hid hZ
  have HZS := Lib.hid hZs
  clear hZ hZs
  go_enter Try.func7, Try.ntmps7
  go_upto_region 3 with fail
  go_cut [7, 8] (fun s7 s8 wx => Two w s7 s8 wx)
  case first =>
    go_region_held3 (fun _ => True) (first | trivial | go_keep)
      (first
        | (go_at_call 32; refine (lowp_any A c ns _ (by first | exact HF.out | exact has_next HF.out (((Below.refl w.heap.size w).alloc (Nat.le_refl _) _).drew)) h1).mono ?_; rintro e w' ⟨f, hp, gf, cf, rfl, ho, hb⟩))
    all_goals (go_wp2_with fail; go_meet; first | exact two_low HZ.out HZS.out hp ho ⟨hb.os, hb.tape, hb.output, hb.size, hb.block⟩ | exact two_make HZ.out HZS.out hp ho ⟨hb.os, hb.tape, hb.output, hb.size, hb.block⟩)
  case rest =>
    obtain ⟨f, gf, cf, g8, rfl, rfl, hp, hfx, ho8, hne, hbx⟩ := hcut
    have P1 := Lib.hid hp
    have f0 : f.length ≤ 256 := by rw [hp.1]; exact Nat.le_refl _
    have f1 : 256 ≤ f.length := by rw [hp.1]; exact Nat.le_refl _
    have hst : Three w f gf cf g8 wc.heap.size zeroL zeroL (wc.alloc (.cells Z 3)) := by
      have ba : Below wc.heap.size wc (wc.alloc (.cells Z 3)) := (Below.refl _ _).alloc (Nat.le_refl _) _
      have b1 := (own_block hfx).2
      have b2 := (own_block ho8).2
      exact ⟨own_next hfx ba, own_next ho8 ba, zero_own HZ.out HZS.out hbx.size, hne, by omega, by omega, zero_poly, zero_poly, hbx.trans (ba.mono hbx.size)⟩
    have HST := Lib.hid hst
    generalize hg9 : wc.heap.size = g9 at HST
    have HG9 := Lib.hid hg9
    clear hp hfx ho8 hne hbx hst
    go_wp2
    clear hg9 HG9
    go_loopw [10] (fun i wr => ∃ (k : Nat) (G : List Int), k ≤ at_.length ∧ i = .int .i64 k ∧ Three w f gf cf g8 g9 G zeroL wr) (fun i _ => at_.length - (intOf i).toNat)
    case atStart => exact ⟨0, zeroL, Nat.zero_le _, rfl, HST.out⟩
    case round =>
      obtain ⟨k, G, hk, rfl, hT⟩ := hrel
      have T0 := Lib.hid hT
      clear hT HST
      by_cases hlt : k < at_.length ∧ k < xs.length
      · obtain ⟨hl1, hl2⟩ := hlt
        have hB := T0.out.2.2.2.2.2.2.2.2
        obtain ⟨a, e, hab, ha⟩ := (HG.out.below hB) k hl1
        obtain ⟨b, e', hbb, hb⟩ := (HH.out.below hB) k hl2
        clear hB
        subst e
        subst e'
        obtain ⟨j, hj, hjl⟩ := low_nat (at_.getD k 0) 256 (by omega)
        obtain ⟨y, hy, hyl⟩ := low_nat (xs.getD k 0) 8380417 (by omega)
        have HJ := Lib.hid hj
        have HY := Lib.hid hy
        clear hj hy
        generalize at_.getD k 0 = X at ha HJ
        generalize xs.getD k 0 = Y at hb HY
        have bk1 : decide ((k : Int) < (at_.length : Int)) = true := by rw [decide_eq_true_iff]; omega
        have bk2 : decide ((k : Int) < (xs.length : Int)) = true := by rw [decide_eq_true_iff]; omega
        go_wp2_with fail
        refine wp_region_still_tail 12 (by kernel_rfl) (by kernel_rfl) ?_
        change wpStill _ _ (World.drew _) (fun a' => wpList _ _ _ _ a' (World.drew _)) _ _
        generalize hW : World.drew wr = w2
        have ca : w2.cell? (a.add k) = some (.int .i64 X) := by rw [← hW]; exact ha
        have cb : w2.cell? (b.add k) = some (.int .i64 Y) := by rw [← hW]; exact hb
        have T2 : Hid (Three w f gf cf g8 g9 G zeroL w2) := by rw [← hW]; exact T0.out.drewN 1
        clear hW ha hb T0
        have cc := own_cell T2.out.2.1 hjl
        have cf8 := T2.out.2.1.frozenAt j
        have hji : (j : Int) < 256 := by omega
        have hji0 : (0 : Int) ≤ (j : Int) := by omega
        simp only [List.take_succ_cons, List.take_zero, List.drop_succ_cons, List.drop_zero]
        repeat still_step
        still_call (still_eq (low_as HJ.out _ (by omega) (by omega)))
        repeat still_step
        still_call (still_eq (low_as HY.out _ (by omega) (by omega)))
        repeat still_step
        refine wpStill_nil ?_
        go_wp2
        go_roundw
        case rel => exact ⟨k + 1, _, by omega, by go_num, T2.out.set8 j ⟨by omega, by omega⟩⟩
        case measure => simp [intOf]; omega
      · have HLT := Lib.hid hlt
        clear hlt
        have hst2 : ∃ W, Three w f gf cf g8 g9 G W wr ∧ Same (vec W) (pSum (vec f) (vec G) 0) := ⟨zeroL, T0.out, vec_zero⟩
        have HS2 := Lib.hid hst2
        clear hst2 T0
        have hx : (decide (k < at_.length) = false) ∨ (decide (k < at_.length) = true ∧ decide (k < xs.length) = false) := by
          have := HLT.out
          by_cases hh : k < at_.length
          · exact .inr ⟨by rw [decide_eq_true_iff]; omega, by rw [decide_eq_false_iff_not]; omega⟩
          · exact .inl (by rw [decide_eq_false_iff_not]; omega)
        clear HLT
        rcases hx with hx1 | ⟨hx1, hx2⟩
        all_goals
          go_wp2
          go_loopw [11] (fun i wr => ∃ (j : Nat) (W : List Int), j ≤ 256 ∧ i = .int .i64 j ∧ Three w f gf cf g8 g9 G W wr ∧ Same (vec W) (pSum (vec f) (vec G) j)) (fun i _ => 256 - (intOf i).toNat)
          case atStart => obtain ⟨W, hT, hS⟩ := HS2.out; exact ⟨0, W, by omega, rfl, hT, hS⟩
          case round =>
            obtain ⟨i, W, hi, rfl, hT, hS⟩ := hrel
            have T1 := Lib.hid hT
            have S1 := Lib.hid hS
            clear hT hS HS2
            by_cases hil : i < 256
            · have bi : decide ((i : Int) < 256) = true := by rw [decide_eq_true_iff]; omega
              have hii : (i : Int) < 256 := by omega
              have cY := own_cell T1.out.2.1 hil
              obtain ⟨y0, y1⟩ := T1.out.2.2.2.2.2.2.1.2 i hil
              have HY : Hid (phi (G.getD i 0) = vec G i) := rfl
              generalize hYe : G.getD i 0 = Y at cY y0 y1 HY
              have HYe := Lib.hid hYe
              clear hYe
              by_cases hY : Y = 0
              · have tY : (Y != 0) = false := by rw [hY]; rfl
                have hN := Lib.hid (mixP_none (vec f) (vec G) i (by rw [← HY.out, hY]; exact phi_zero))
                clear hY
                go_wp2
                refine wp_loop_rounds 1 ?_
                rw [rounds_succ]
                go_wp2
                go_roundw
                case rel => exact ⟨i + 1, W, by omega, by go_num, T1.out, S1.out.trans hN.out⟩
                case measure => simp [intOf]; omega
              · have tY : (Y != 0) = true := by rw [bne_iff_ne]; exact hY
                clear hY
                go_wp2
                go_loopw [12] (fun q wr => ∃ (m : Nat) (V : List Int), m ≤ 256 ∧ q = .int .i64 m ∧ Three w f gf cf g8 g9 G V wr ∧ Same (vec V) (MixP (vec f) (vec G) i m)) (fun q _ => 256 - (intOf q).toNat)
                case atStart => exact ⟨0, W, by omega, rfl, T1.out, by rw [mixP_start]; exact S1.out⟩
                case round =>
                  obtain ⟨m, V, hm, rfl, hT, hS⟩ := hrel
                  have T3 := Lib.hid hT
                  have S3 := Lib.hid hS
                  clear hT hS
                  have cY3 : wr.cell? ⟨g8, i, none⟩ = some (.int .i64 Y) := by rw [own_cell T3.out.2.1 hil, HYe.out]
                  by_cases hml : m < 256
                  · have bm : decide ((m : Int) < 256) = true := by rw [decide_eq_true_iff]; omega
                    have hmi : (m : Int) < 256 := by omega
                    have hmf : (m : Int) < (f.length : Int) := by omega
                    have hmn : m < f.length := by omega
                    have cX := own_cell T3.out.1 hmn
                    have HX : Hid (phi (f.getD m 0) = vec f m) := rfl
                    have cZ := own_cell T3.out.2.2.1 (k := (i + m) % 256) (by omega)
                    have fZ := T3.out.2.2.1.frozenAt ((i + m) % 256)
                    have okX := P1.out.2 m hml
                    generalize f.getD m 0 = X at cX HX okX
                    obtain ⟨zz0, zz1⟩ := T3.out.2.2.2.2.2.2.2.1.2 ((i + m) % 256) (by omega)
                    generalize hZe : V.getD ((i + m) % 256) 0 = ZZ at cZ zz0 zz1
                    have rm0 := rMul_lo X Y
                    have rm1 := rMul_hi X Y
                    have HZe := Lib.hid hZe
                    clear hZe
                    by_cases hs : i + m < 256
                    · have e : (i + m) % 256 = i + m := by omega
                      have hsI : (i : Int) + (m : Int) < 256 := by omega
                      have hsI0 : (0 : Int) ≤ (i : Int) + (m : Int) := by omega
                      have hst := prod_step hil hml T3.out.2.2.2.2.2.2.2.1 S3.out (rAdd_ok ZZ (rMul X Y)) (prod_lo hs HX.out HY.out HZe.out.symm)
                      rw [e] at cZ fZ hst
                      have HST3 := Lib.hid hst
                      clear hst e hs
                      go_wp2_with fail
                      go_quiet ((go_at_call 36; exact quiet_eq (mul_any _ _ _)))
                      go_wp2_with (go_at_call 37; refine (of_any _ _).mono ?_; rintro e w' ⟨rfl, rfl⟩)
                      go_roundw
                      case rel => exact ⟨m + 1, _, by omega, by go_num, (T3.out.drewN nq).set9 (i + m) (rAdd_ok _ _), HST3.out.2⟩
                      case measure => simp [intOf]; omega
                    · have e : (i + m) % 256 = i + m - 256 := by omega
                      have hsI : 256 ≤ (i : Int) + (m : Int) := by omega
                      have hsI2 : (i : Int) + (m : Int) - 256 < 256 := by omega
                      have hsI3 : (0 : Int) ≤ (i : Int) + (m : Int) - 256 := by omega
                      have hst := prod_step hil hml T3.out.2.2.2.2.2.2.2.1 S3.out (rSub_ok ZZ (rMul X Y)) (prod_hi hs hil hml HX.out HY.out HZe.out.symm)
                      rw [e] at cZ fZ hst
                      have HST3 := Lib.hid hst
                      have hsN : 256 ≤ i + m := by omega
                      clear hst e hs
                      go_wp2_with fail
                      go_quiet ((go_at_call 36; exact quiet_eq (mul_any _ _ _)))
                      go_wp2_with (go_at_call 37; refine (of_any _ _).mono ?_; rintro e w' ⟨rfl, rfl⟩)
                      go_roundw
                      case rel => exact ⟨m + 1, _, by omega, by go_num, (T3.out.drewN nq).set9 (i + m - 256) (rSub_ok _ _), HST3.out.2⟩
                      case measure => simp [intOf]; omega
                  · have bm : decide ((m : Int) < 256) = false := by rw [decide_eq_false_iff_not]; omega
                    have e : m = 256 := by omega
                    subst e
                    go_wp2
                    go_roundw
                    case rel => exact ⟨i + 1, V, by omega, by go_num, T3.out, S3.out.trans (mixP_end _ _ _)⟩
                    case measure => simp [intOf]; omega
            · have bi : decide ((i : Int) < 256) = false := by rw [decide_eq_false_iff_not]; omega
              have e : i = 256 := by omega
              subst e
              obtain ⟨t1, t2, t3, _, _, _, pG, pW, tb⟩ := T1.out
              have F0 := Lib.hid (own_read t1)
              have G0 := Lib.hid (own_has t2)
              have W0 := Lib.hid (own_has t3)
              have B0 := Lib.hid tb
              have PG := Lib.hid pG
              have PW := Lib.hid pW
              clear t1 t2 t3 pG pW tb T1
              go_wp2_with fail
              refine (pOver_res _ _ f wr F0.out (by omega)).mono ?_
              rintro e w3 ⟨A3, c3, rfl, ho, hb⟩
              have O3 := Lib.hid (own_read ho)
              have G3 := Lib.hid (has_next G0.out hb)
              have W3 := Lib.hid (has_next W0.out hb)
              have B3 := Lib.hid (B0.out.trans (hb.mono B0.out.size))
              clear ho hb
              go_wp2_with fail
              refine (pOver_len _ _ G _ w3 PG.out.1 G3.out (by rw [PG.out.1]; omega)).mono ?_
              rintro e w4 ⟨A4, c4, rfl, ho, hb⟩
              have Q4 := Lib.hid (own_read ho)
              have O4 := Lib.hid (has_next O3.out hb)
              have W4 := Lib.hid (has_next W3.out hb)
              have B4 := Lib.hid (B3.out.trans (hb.mono B3.out.size))
              clear ho hb
              go_wp2_with fail
              refine (pTimes_res _ _ _ _ (one vOver f) (one vOver G) w4 O4.out Q4.out (by have := one_len vOver f; omega) (by have := one_len vOver G; omega)).mono ?_
              rintro e w5 ⟨A5, c5, rfl, ho, hb⟩
              have R5 := Lib.hid (own_read ho)
              have W5 := Lib.hid (has_next W4.out hb)
              have B5 := Lib.hid (B4.out.trans (hb.mono B4.out.size))
              clear ho hb
              go_wp2_with fail
              refine (pBack_res _ _ (two vTimes (one vOver f) (one vOver G)) w5 R5.out (by have := two_len vTimes (one vOver f) (one vOver G); omega)).mono ?_
              rintro e w6 ⟨A6, c6, rfl, ho, hb⟩
              have R6 := Lib.hid (own_read ho)
              have W6 := Lib.hid (has_next W5.out hb)
              have B6 := Lib.hid (B5.out.trans (hb.mono B5.out.size))
              clear ho hb
              go_wp2_with fail
              refine (same_len _ _ _ _ (one vBack (two vTimes (one vOver f) (one vOver G))) W _ w6 (product P1.out PG.out PW.out S1.out) PW.out.1 R6.out W6.out).mono ?_
              rintro e w7 ⟨rfl, n7, rfl⟩
              go_wp2_with fail
              refine (awake_any _).mono ?_
              rintro e w8 ⟨rfl, hb⟩
              have B8 := Lib.hid ((below_drewN B6.out n7).trans (hb.mono (below_drewN B6.out n7).size))
              clear hb
              go_wp2
              go_ret
              exact ⟨rfl, B8.out⟩
end Go.Proofs.Ytneopnlklhcopaa
