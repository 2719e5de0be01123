/- The law PolyUnits, walked. -/
import Derived.Test.YtmjcgkddjgplkaaDoorQ
namespace Go.Proofs.YtmjcgkddjgplkaaDoor
open Go.RowKit Slices Go.Proofs.YtmjcgkddjgplkaaDoor.Ring

theorem low_as {x n v : Int} (hv : v = low x n) (w : World) (h0 : 1 ≤ n) (h1 : n ≤ 4611686018427387904) :
    Calls Tryd.prog 29 #[.int .i64 x, .int .i64 n] w fun e w' => e = .returned (.int .i64 v) ∧ w = w' := by
  rw [hv]; exact low_any x n w h0 h1
theorem low_nat (x : Int) (m : Nat) (h : 1 ≤ m) : ∃ n : Nat, (n : Int) = low x m ∧ n < m := by
  have l0 : 0 ≤ low x m := Int.emod_nonneg _ (by omega)
  have l1 : low x m < m := Int.emod_lt_of_pos _ (by omega)
  exact ⟨(low x m).toNat, by omega, by omega⟩
theorem pow_bd (t : Int) (k : Nat) (t0 : 0 ≤ t) (t1 : t ≤ 127) (hk : k < 128) : 0 ≤ (2 * t + 1) * (k : Int) ∧ (2 * t + 1) * (k : Int) ≤ 32385 := by
  refine ⟨Int.mul_nonneg (by omega) (by omega), ?_⟩
  have := Int.mul_le_mul (show 2 * t + 1 ≤ 255 by omega) (show (k : Int) ≤ 127 by omega) (by omega) (by omega : (0:Int) ≤ 255)
  omega

set_option maxRecDepth 100000 in
set_option maxHeartbeats 4000000 in
theorem units_any (a0 : Int) (w : World) (TB : Hid (Tab w)) :
    Calls Tryd.prog 8 #[.int .i64 a0] w fun e w' => e = .returned (.bool true) ∧ Below w.heap.size w w' := by
  obtain ⟨n, hn, hlt⟩ := low_nat a0 256 (by omega)
  have HN := Lib.hid hn
  clear hn
  go_enter Tryd.func8, Tryd.ntmps8
  go_wp2_with fail
  refine (low_as HN.out w (by omega) (by omega)).mono ?_
  rintro e w' ⟨rfl, rfl⟩
  go_wp2_with fail
  refine (unit_any n w hlt).mono ?_
  rintro e w1 ⟨g, c, rfl, ho, hb⟩
  have H1 := Lib.hid (own_read ho)
  have B1 := Lib.hid hb
  clear ho hb
  go_wp2_with fail
  refine (pOver_res _ _ (unitL 256 n) w1 H1.out (by rw [(unit_poly n).1]; omega)).mono ?_
  obtain ⟨lf, hlf⟩ : ∃ lf, lf = one vOver (unitL 256 n) := ⟨_, rfl⟩
  rw [← hlf]
  have hpo : IsPoly lf := by rw [hlf]; exact one_poly (unit_poly n)
  have hlen : lf.length = 256 := hpo.1
  have hat : ∀ i, i < 128 → lf.getD (2 * i + n % 2) 0 = rPow 17 ((2 * turn i + 1) * ((n / 2 : Nat) : Int)) ∧ lf.getD (2 * i + 1 - n % 2) 0 = 0 := by
    intro i hi; rw [hlf]; exact over_unit_at n i hlt hi
  rintro e w2 ⟨A2, c2, rfl, ho, hb⟩
  obtain ⟨g2, c2', hv, _⟩ := own_form ho (by omega)
  injection hv with hv1 _ hv3
  subst hv1
  subst hv3
  have HO := Lib.hid ho
  have HAT := Lib.hid hat
  have B2 := Lib.hid ((B1.out.trans (hb.mono B1.out.size)))
  have n0 : lf.length ≤ 256 := by omega
  have n1 : 256 ≤ lf.length := by omega
  have tl : ((lf.length : Int) != 256) = false := by rw [hlen]; rfl
  clear ho hb hlf hlen hpo hat
  go_wp2
  go_loop [4] (fun i => ∃ k : Nat, k ≤ 128 ∧ i = .int .i64 k) (fun i => 128 - (intOf i).toNat)
  case atStart => exact ⟨0, by omega, rfl⟩
  case round =>
    obtain ⟨i, hi, rfl⟩ := hrel
    by_cases hil : i < 128
    · have bi : decide ((i : Int) < 128) = true := by rw [decide_eq_true_iff]; omega
      go_wp2
      go_loop [5, 6] (fun r k => ∃ j : Nat, j ≤ 7 ∧ k = .int .i64 j ∧ r = .int .i64 (tpart i j)) (fun _ k => 7 - (intOf k).toNat)
      case atStart => exact ⟨0, Nat.zero_le _, rfl, rfl⟩
      case round =>
        obtain ⟨j, hj, rfl, rfl⟩ := hrel
        match j, hj with
        | 0, hj =>
          obtain ⟨b0, b1⟩ := tpart_b0 i
          have hs := Lib.hid (tpart_s0 i)
          have he : bits BinOp.and IntKind.i64 (i : Int) 1 = (i : Int) % 2 := and1 _
          go_wp2
          go_round
          case rel => exact ⟨1, by omega, rfl, congrArg _ hs.out⟩
          case measure => simp [intOf]
        | 1, hj =>
          obtain ⟨b0, b1⟩ := tpart_b1 i
          have hs := Lib.hid (tpart_s1 i)
          have he : bits BinOp.and IntKind.i64 ((i : Int) / 2) 1 = ((i : Int) / 2) % 2 := and1 _
          go_wp2
          go_round
          case rel => exact ⟨2, by omega, rfl, congrArg _ hs.out⟩
          case measure => simp [intOf]
        | 2, hj =>
          obtain ⟨b0, b1⟩ := tpart_b2 i
          have hs := Lib.hid (tpart_s2 i)
          have he : bits BinOp.and IntKind.i64 ((i : Int) / 4) 1 = ((i : Int) / 4) % 2 := and1 _
          go_wp2
          go_round
          case rel => exact ⟨3, by omega, rfl, congrArg _ hs.out⟩
          case measure => simp [intOf]
        | 3, hj =>
          obtain ⟨b0, b1⟩ := tpart_b3 i
          have hs := Lib.hid (tpart_s3 i)
          have he : bits BinOp.and IntKind.i64 ((i : Int) / 8) 1 = ((i : Int) / 8) % 2 := and1 _
          go_wp2
          go_round
          case rel => exact ⟨4, by omega, rfl, congrArg _ hs.out⟩
          case measure => simp [intOf]
        | 4, hj =>
          obtain ⟨b0, b1⟩ := tpart_b4 i
          have hs := Lib.hid (tpart_s4 i)
          have he : bits BinOp.and IntKind.i64 ((i : Int) / 16) 1 = ((i : Int) / 16) % 2 := and1 _
          go_wp2
          go_round
          case rel => exact ⟨5, by omega, rfl, congrArg _ hs.out⟩
          case measure => simp [intOf]
        | 5, hj =>
          obtain ⟨b0, b1⟩ := tpart_b5 i
          have hs := Lib.hid (tpart_s5 i)
          have he : bits BinOp.and IntKind.i64 ((i : Int) / 32) 1 = ((i : Int) / 32) % 2 := and1 _
          go_wp2
          go_round
          case rel => exact ⟨6, by omega, rfl, congrArg _ hs.out⟩
          case measure => simp [intOf]
        | 6, hj =>
          obtain ⟨b0, b1⟩ := tpart_b6 i
          have hs := Lib.hid (tpart_s6 i)
          have he : bits BinOp.and IntKind.i64 ((i : Int) / 64) 1 = ((i : Int) / 64) % 2 := and1 _
          go_wp2
          go_round
          case rel => exact ⟨7, by omega, rfl, congrArg _ hs.out⟩
          case measure => simp [intOf]
        | 7, hj =>
          obtain ⟨b0, b1⟩ := tpart_b7 i
          have e7 : tpart i 7 = turn i := rfl
          rw [e7]
          clear e7
          obtain ⟨a1, a2⟩ := HAT.out i hil
          have cX := own_cell HO.out (k := 2 * i + n % 2) (by omega)
          have cY := own_cell HO.out (k := 2 * i + 1 - n % 2) (by omega)
          rw [a1] at cX
          rw [a2] at cY
          obtain ⟨q0', q1'⟩ := pow_bd (turn i) (n / 2) b0 b1 (by omega)
          have q0 : 0 ≤ (2 * turn i + 1) * ((n : Int) / 2) := q0'
          have q1 : (2 * turn i + 1) * ((n : Int) / 2) ≤ 32385 := q1'
          have cX : w2.cell? ⟨g2, 2 * i + n % 2, none⟩ = some (.int .i64 (rPow 17 ((2 * turn i + 1) * ((n : Int) / 2)))) := cX
          clear a1 a2 q0' q1'
          go_wp2_with (go_at_call 36; refine (pow_any _ _ _ (by omega)).mono ?_; rintro e w' ⟨rfl, rfl⟩)
          go_round
          case rel => exact ⟨i + 1, by omega, by go_num⟩
          case measure => simp [intOf]; omega
    · have bi : decide ((i : Int) < 128) = false := by rw [decide_eq_false_iff_not]; omega
      go_wp2_with (go_at_call 11; refine (awake_any _).mono ?_; rintro e w' ⟨rfl, hb⟩)
      go_ret
      exact ⟨rfl, B2.out.trans (hb.mono B2.out.size)⟩
end Go.Proofs.YtmjcgkddjgplkaaDoor
