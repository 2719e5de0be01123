/- Contracts of the roots. -/
import Derived.Test.YtcjficklkamcnaaB
namespace Go.Proofs.Ytcjficklkamcnaa
open Go.RowKit Ring

set_option maxRecDepth 100000 in
set_option maxHeartbeats 400000 in
theorem rev_nat (v : Nat) (w : World) (h : v < 256) :
    Calls Try.prog 27 #[.int .u8 v] w fun e w' => e = .returned (.int .u8 (rev8 v)) ∧ w = w' := by
  go_enter Try.func27, Try.ntmps27
  go_wp2
  go_ret
  refine ⟨ret_int ?_, rfl⟩
  clear w
  revert v
  decide +kernel

theorem rev_any (x : Int) (w : World) (h0 : 0 ≤ x) (h1 : x ≤ 255) :
    Calls Try.prog 27 #[.int .u8 x] w fun e w' => e = .returned (.int .u8 (rev8 x)) ∧ w = w' := by
  obtain ⟨m, rfl⟩ : ∃ m : Nat, x = m := ⟨x.toNat, by omega⟩
  exact rev_nat m w (by omega)

set_option maxHeartbeats 400000 in
theorem root_any (i : Int) (w : World) :
    Calls Try.prog 20 #[.int .i64 i] w fun e w' => e = .returned (.int .i64 (rRoot i)) ∧ w = w' := by
  have r0 := rev8_lo (i % 256)
  have r1 := rev8_hi (i % 256)
  go_enter Try.func20, Try.ntmps20
  go_wp2_with (first | (go_at_call 27; refine (rev_any _ _ (by omega) (by omega)).mono ?_; rintro e w' ⟨rfl, rfl⟩) | (go_at_call 18; refine (pow_any _ _ _ (by omega)).mono ?_; rintro e w' ⟨rfl, rfl⟩))
  go_ret
  refine ⟨ret_int ?_, rfl⟩
  rw [rev8_turn]; rfl

set_option maxHeartbeats 1000000 in
theorem turned7 (x : Int) (w : World) :
    Calls Try.prog 28 #[.int .i64 7, .int .i64 x] w fun e w' => e = .returned (.int .i64 (turn x)) ∧ w = w' := by
  go_enter Try.func28, Try.ntmps28
  go_wp2
  go_loop [5, 6] (fun o i => ∃ k : Nat, k ≤ 7 ∧ i = .int .i64 k ∧ o = .int .i64 (tpart x k)) (fun _ i => 7 - (intOf i).toNat)
  case atStart => exact ⟨0, Nat.zero_le _, rfl, rfl⟩
  case round =>
    obtain ⟨k, hk, rfl, rfl⟩ := hrel
    match k, hk with
    | 0, hk =>
      obtain ⟨b0, b1⟩ := tpart_b0 x
      have hs := Lib.hid (tpart_s0 x)
      have he : bits BinOp.and IntKind.i64 x 1 = x % 2 := and1 _
      go_wp2
      go_round
      case rel => exact ⟨1, by omega, rfl, congrArg _ hs.out⟩
      case measure => simp [intOf]
    | 1, hk =>
      obtain ⟨b0, b1⟩ := tpart_b1 x
      have hs := Lib.hid (tpart_s1 x)
      have he : bits BinOp.and IntKind.i64 (x / 2) 1 = (x / 2) % 2 := and1 _
      go_wp2
      go_round
      case rel => exact ⟨2, by omega, rfl, congrArg _ hs.out⟩
      case measure => simp [intOf]
    | 2, hk =>
      obtain ⟨b0, b1⟩ := tpart_b2 x
      have hs := Lib.hid (tpart_s2 x)
      have he : bits BinOp.and IntKind.i64 (x / 4) 1 = (x / 4) % 2 := and1 _
      go_wp2
      go_round
      case rel => exact ⟨3, by omega, rfl, congrArg _ hs.out⟩
      case measure => simp [intOf]
    | 3, hk =>
      obtain ⟨b0, b1⟩ := tpart_b3 x
      have hs := Lib.hid (tpart_s3 x)
      have he : bits BinOp.and IntKind.i64 (x / 8) 1 = (x / 8) % 2 := and1 _
      go_wp2
      go_round
      case rel => exact ⟨4, by omega, rfl, congrArg _ hs.out⟩
      case measure => simp [intOf]
    | 4, hk =>
      obtain ⟨b0, b1⟩ := tpart_b4 x
      have hs := Lib.hid (tpart_s4 x)
      have he : bits BinOp.and IntKind.i64 (x / 16) 1 = (x / 16) % 2 := and1 _
      go_wp2
      go_round
      case rel => exact ⟨5, by omega, rfl, congrArg _ hs.out⟩
      case measure => simp [intOf]
    | 5, hk =>
      obtain ⟨b0, b1⟩ := tpart_b5 x
      have hs := Lib.hid (tpart_s5 x)
      have he : bits BinOp.and IntKind.i64 (x / 32) 1 = (x / 32) % 2 := and1 _
      go_wp2
      go_round
      case rel => exact ⟨6, by omega, rfl, congrArg _ hs.out⟩
      case measure => simp [intOf]
    | 6, hk =>
      obtain ⟨b0, b1⟩ := tpart_b6 x
      have hs := Lib.hid (tpart_s6 x)
      have he : bits BinOp.and IntKind.i64 (x / 64) 1 = (x / 64) % 2 := and1 _
      go_wp2
      go_round
      case rel => exact ⟨7, by omega, rfl, congrArg _ hs.out⟩
      case measure => simp [intOf]
    | 7, hk =>
      go_wp2
      go_ret
      exact ⟨rfl, rfl⟩

set_option maxHeartbeats 400000 in
theorem refRoot_any (i : Int) (w : World) :
    Calls Try.prog 21 #[.int .i64 i] w fun e w' => e = .returned (.int .i64 (rRoot i)) ∧ w = w' := by
  have t0 : turn i ≤ 127 := (tpart_b7 i).2
  go_enter Try.func21, Try.ntmps21
  go_wp2_with (first | (go_at_call 28; refine (turned7 _ _).mono ?_; rintro e w' ⟨rfl, rfl⟩) | (go_at_call 19; refine (refPow_any _ _ _ (by omega)).mono ?_; rintro e w' ⟨rfl, rfl⟩))
  go_ret
  exact ⟨rfl, rfl⟩

end Go.Proofs.Ytcjficklkamcnaa
