/- The law WaveUnits, walked. -/
import Derived.Test.YtneopnlklhcopaaQ
namespace Go.Proofs.Ytneopnlklhcopaa
open Go.RowKit Slices Go.Proofs.Ytneopnlklhcopaa.Ring

theorem pow_bd (t : Int) (k : Nat) (t0 : 0 ≤ t) (t1 : t ≤ 255) (hk : k < 256) : 0 ≤ (2 * t + 1) * (k : Int) ∧ (2 * t + 1) * (k : Int) ≤ 130305 := by
  refine ⟨Int.mul_nonneg (by omega) (by omega), ?_⟩
  have := Int.mul_le_mul (show 2 * t + 1 ≤ 511 by omega) (show (k : Int) ≤ 255 by omega) (by omega) (by omega : (0:Int) ≤ 511)
  omega

set_option maxRecDepth 100000 in
set_option maxHeartbeats 4000000 in
theorem units_any (a0 : Int) (w : World) (TB : Hid (Tab w)) :
    Calls Try.prog 8 #[.int .i64 a0] w fun e w' => e = .returned (.bool true) ∧ Below w.heap.size w w' := by
  obtain ⟨n, hn, hlt⟩ := low_nat a0 256 (by omega)
  have HN := Lib.hid hn
  clear hn
  go_enter Try.func8, Try.ntmps8
  go_wp2_with fail
  refine (low_as HN.out w (by omega) (by omega)).mono ?_
  rintro e w' ⟨rfl, rfl⟩
  go_wp2_with fail
  refine (unit_any n w hlt).mono ?_
  rintro e w1 ⟨g, c, rfl, ho, hb⟩
  have H1 := Lib.hid (own_read ho)
  have B1 := Lib.hid hb
  clear ho hb
  go_wp2_with fail
  refine (pOver_res _ _ (unitL 256 n) w1 H1.out (by rw [(unit_poly n).1]; omega)).mono ?_
  obtain ⟨lf, hlf⟩ : ∃ lf, lf = one vOver (unitL 256 n) := ⟨_, rfl⟩
  rw [← hlf]
  have hpo : IsPoly lf := by rw [hlf]; exact one_poly (unit_poly n)
  have hlen : lf.length = 256 := hpo.1
  have hat : ∀ i, i < 256 → lf.getD i 0 = rPow 1753 ((2 * turn i + 1) * (n : Int)) := by
    intro i hi; rw [hlf]; exact over_unit_at n i hlt hi
  rintro e w2 ⟨A2, c2, rfl, ho, hb⟩
  obtain ⟨g2, c2', hv, _⟩ := own_form ho (by omega)
  injection hv with hv1 _ hv3
  subst hv1
  subst hv3
  have HO := Lib.hid ho
  have HAT := Lib.hid hat
  have B2 := Lib.hid ((B1.out.trans (hb.mono B1.out.size)))
  have n0 : lf.length ≤ 256 := by omega
  have n1 : 256 ≤ lf.length := by omega
  have tl : ((lf.length : Int) != 256) = false := by rw [hlen]; rfl
  clear ho hb hlf hlen hpo hat
  go_wp2
  go_loopw [4] (fun i wr => ∃ k m : Nat, k ≤ 256 ∧ i = .int .i64 k ∧ wr = w2.drewN m) (fun i _ => 256 - (intOf i).toNat)
  case atStart => exact ⟨0, 0, by omega, rfl, rfl⟩
  case round =>
    obtain ⟨i, m, hi, rfl, hwr⟩ := hrel
    have HWR := Lib.hid hwr
    clear hwr
    by_cases hil : i < 256
    · have bi : decide ((i : Int) < 256) = true := by rw [decide_eq_true_iff]; omega
      go_wp2
      go_loop [5, 6] (fun r k => ∃ j : Nat, j ≤ 8 ∧ k = .int .i64 j ∧ r = .int .i64 (tpart i j)) (fun _ k => 8 - (intOf k).toNat)
      case atStart => exact ⟨0, Nat.zero_le _, rfl, rfl⟩
      case round =>
        obtain ⟨j, hj, rfl, rfl⟩ := hrel
        match j, hj with
        | 0, hj =>
          obtain ⟨b0, b1⟩ := tpart_bd i 0 (by omega)
          have hs : 2 * tpart i 0 + (i : Int) % 2 = tpart i 1 := by show _ = 2 * tpart i 0 + (i : Int) / 2 ^ 0 % 2; omega
          have HS := Lib.hid hs
          have he : bits BinOp.and IntKind.i64 (i : Int) 1 = (i : Int) % 2 := and1 _
          clear hs
          go_wp2
          go_round
          case rel => exact ⟨1, by omega, rfl, congrArg _ HS.out⟩
          case measure => simp [intOf]
        | 1, hj =>
          obtain ⟨b0, b1⟩ := tpart_bd i 1 (by omega)
          have hs : 2 * tpart i 1 + (i : Int) / 2 % 2 = tpart i 2 := by show _ = 2 * tpart i 1 + (i : Int) / 2 ^ 1 % 2; omega
          have HS := Lib.hid hs
          have he : bits BinOp.and IntKind.i64 ((i : Int) / 2) 1 = (i : Int) / 2 % 2 := and1 _
          clear hs
          go_wp2
          go_round
          case rel => exact ⟨2, by omega, rfl, congrArg _ HS.out⟩
          case measure => simp [intOf]
        | 2, hj =>
          obtain ⟨b0, b1⟩ := tpart_bd i 2 (by omega)
          have hs : 2 * tpart i 2 + (i : Int) / 4 % 2 = tpart i 3 := by show _ = 2 * tpart i 2 + (i : Int) / 2 ^ 2 % 2; omega
          have HS := Lib.hid hs
          have he : bits BinOp.and IntKind.i64 ((i : Int) / 4) 1 = (i : Int) / 4 % 2 := and1 _
          clear hs
          go_wp2
          go_round
          case rel => exact ⟨3, by omega, rfl, congrArg _ HS.out⟩
          case measure => simp [intOf]
        | 3, hj =>
          obtain ⟨b0, b1⟩ := tpart_bd i 3 (by omega)
          have hs : 2 * tpart i 3 + (i : Int) / 8 % 2 = tpart i 4 := by show _ = 2 * tpart i 3 + (i : Int) / 2 ^ 3 % 2; omega
          have HS := Lib.hid hs
          have he : bits BinOp.and IntKind.i64 ((i : Int) / 8) 1 = (i : Int) / 8 % 2 := and1 _
          clear hs
          go_wp2
          go_round
          case rel => exact ⟨4, by omega, rfl, congrArg _ HS.out⟩
          case measure => simp [intOf]
        | 4, hj =>
          obtain ⟨b0, b1⟩ := tpart_bd i 4 (by omega)
          have hs : 2 * tpart i 4 + (i : Int) / 16 % 2 = tpart i 5 := by show _ = 2 * tpart i 4 + (i : Int) / 2 ^ 4 % 2; omega
          have HS := Lib.hid hs
          have he : bits BinOp.and IntKind.i64 ((i : Int) / 16) 1 = (i : Int) / 16 % 2 := and1 _
          clear hs
          go_wp2
          go_round
          case rel => exact ⟨5, by omega, rfl, congrArg _ HS.out⟩
          case measure => simp [intOf]
        | 5, hj =>
          obtain ⟨b0, b1⟩ := tpart_bd i 5 (by omega)
          have hs : 2 * tpart i 5 + (i : Int) / 32 % 2 = tpart i 6 := by show _ = 2 * tpart i 5 + (i : Int) / 2 ^ 5 % 2; omega
          have HS := Lib.hid hs
          have he : bits BinOp.and IntKind.i64 ((i : Int) / 32) 1 = (i : Int) / 32 % 2 := and1 _
          clear hs
          go_wp2
          go_round
          case rel => exact ⟨6, by omega, rfl, congrArg _ HS.out⟩
          case measure => simp [intOf]
        | 6, hj =>
          obtain ⟨b0, b1⟩ := tpart_bd i 6 (by omega)
          have hs : 2 * tpart i 6 + (i : Int) / 64 % 2 = tpart i 7 := by show _ = 2 * tpart i 6 + (i : Int) / 2 ^ 6 % 2; omega
          have HS := Lib.hid hs
          have he : bits BinOp.and IntKind.i64 ((i : Int) / 64) 1 = (i : Int) / 64 % 2 := and1 _
          clear hs
          go_wp2
          go_round
          case rel => exact ⟨7, by omega, rfl, congrArg _ HS.out⟩
          case measure => simp [intOf]
        | 7, hj =>
          obtain ⟨b0, b1⟩ := tpart_bd i 7 (by omega)
          have hs : 2 * tpart i 7 + (i : Int) / 128 % 2 = tpart i 8 := by show _ = 2 * tpart i 7 + (i : Int) / 2 ^ 7 % 2; omega
          have HS := Lib.hid hs
          have he : bits BinOp.and IntKind.i64 ((i : Int) / 128) 1 = (i : Int) / 128 % 2 := and1 _
          clear hs
          go_wp2
          go_round
          case rel => exact ⟨8, by omega, rfl, congrArg _ HS.out⟩
          case measure => simp [intOf]
        | 8, hj =>
          obtain ⟨b0, b1⟩ := turn_bd i
          rw [tpart_8]
          have cX : wr.cell? ⟨g2, i, none⟩ = some (.int .i64 (lf.getD i 0)) := by rw [HWR.out]; exact own_cell HO.out (k := i) (by omega)
          rw [HAT.out i hil] at cX
          obtain ⟨q0, q1⟩ := pow_bd (turn i) n b0 b1 hlt
          have hi1 : (i : Int) < (lf.length : Int) := by omega
          have hi0' : (0 : Int) ≤ (i : Int) := Int.natCast_nonneg _
          generalize turn i = t at b0 b1 cX q0 q1
          have r1 : IntKind.i64.wrap (2 * t) = 2 * t := IntWalk.i64_in _ (by omega)
          have r2 : IntKind.i64.wrap (2 * t + 1) = 2 * t + 1 := IntWalk.i64_in _ (by omega)
          have r3 : IntKind.i64.wrap ((2 * t + 1) * (n : Int)) = (2 * t + 1) * (n : Int) := IntWalk.i64_in _ (by omega)
          go_wp2
          go_quiet ((go_at_call 39; exact quiet_eq (pow_any _ _ _ (by omega))))
          go_wp2
          go_roundw
          case rel => exact ⟨i + 1, m + nq, by omega, by go_num, by rw [HWR.out, World.drewN_drewN]⟩
          case measure => simp [intOf]; omega
    · have bi : decide ((i : Int) < 256) = false := by rw [decide_eq_false_iff_not]; omega
      have B3 : Hid (Below w.heap.size w wr) := by show Below _ _ _; rw [HWR.out]; exact below_drewN B2.out m
      go_wp2_with (go_at_call 11; refine (awake_any _ (tab_b TB B3)).mono ?_; rintro e w' ⟨rfl, hb⟩)
      go_ret
      exact ⟨rfl, B3.out.trans (hb.mono B3.out.size)⟩
end Go.Proofs.Ytneopnlklhcopaa
