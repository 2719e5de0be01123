/- Contracts of the roots. -/
import Derived.Test.YtlaejnbkgikfcaaDoorB
import Derived.Test.YtlaejnbkgikfcaaDoorBits
namespace Go.Proofs.YtlaejnbkgikfcaaDoor
open Go.RowKit Ring

def rootL : List Int := [1, 1729, 2580, 3289, 2642, 630, 1897, 848, 1062, 1919, 193, 797, 2786, 3260, 569, 1746,
  296, 2447, 1339, 1476, 3046, 56, 2240, 1333, 1426, 2094, 535, 2882, 2393, 2879, 1974, 821,
  289, 331, 3253, 1756, 1197, 2304, 2277, 2055, 650, 1977, 2513, 632, 2865, 33, 1320, 1915,
  2319, 1435, 807, 452, 1438, 2868, 1534, 2402, 2647, 2617, 1481, 648, 2474, 3110, 1227, 910,
  17, 2761, 583, 2649, 1637, 723, 2288, 1100, 1409, 2662, 3281, 233, 756, 2156, 3015, 3050,
  1703, 1651, 2789, 1789, 1847, 952, 1461, 2687, 939, 2308, 2437, 2388, 733, 2337, 268, 641,
  1584, 2298, 2037, 3220, 375, 2549, 2090, 1645, 1063, 319, 2773, 757, 2099, 561, 2466, 2594,
  2804, 1092, 403, 1026, 1143, 2150, 2775, 886, 1722, 1212, 1874, 1029, 2110, 2935, 885, 2154]
theorem root_all : (List.range 128).all (fun i => rootL.getD i 0 == rRoot i) = true := by decide +kernel
theorem root_at {i : Nat} (h : i < 128) : rootL.getD i 0 = rRoot i := by
  have := List.all_eq_true.mp root_all i (List.mem_range.mpr h)
  simpa using this

/-- the program's table of roots lies where its variable lies -/
def Tab (w : World) : Prop := ∀ i, i < 128 → w.cell? ⟨0, i, none⟩ = some (.int .i64 (rRoot i))
theorem Tab.size {w : World} (h : Tab w) : 0 < w.heap.size := World.block_lt_of_cell? w ⟨0, 0, none⟩ (h 0 (by omega))

theorem tab_g {W w : World} (t : Hid (Tab W)) (g : Grown W w) : Hid (Tab w) := fun i hi => (g.1.cell t.out.size (fun f => f)).trans (t.out i hi)
theorem turn_mod (i : Int) : turn (i % 128) = turn i := by
  have e0 : i % 128 % 2 = i % 2 := by omega
  have e1 : i % 128 / 2 % 2 = i / 2 % 2 := by omega
  have e2 : i % 128 / 4 % 2 = i / 4 % 2 := by omega
  have e3 : i % 128 / 8 % 2 = i / 8 % 2 := by omega
  have e4 : i % 128 / 16 % 2 = i / 16 % 2 := by omega
  have e5 : i % 128 / 32 % 2 = i / 32 % 2 := by omega
  have e6 : i % 128 / 64 % 2 = i / 64 % 2 := by omega
  unfold turn
  rw [e0, e1, e2, e3, e4, e5, e6]

set_option maxHeartbeats 400000 in
theorem root_any (i : Int) (w : World) (T : Hid (Tab w)) :
    Calls Tryd.prog 20 #[.int .i64 i] w fun e w' => e = .returned (.int .i64 (rRoot i)) ∧ w = w' := by
  obtain ⟨k, hk⟩ : ∃ k : Nat, (k : Int) = i % 128 := ⟨(i % 128).toNat, by omega⟩
  have hlt : k < 128 := by omega
  have hc := T.out k hlt
  have hb : bits BinOp.and IntKind.i64 i 127 = (k : Int) := by rw [and127, hk]
  have he : rRoot k = rRoot i := by unfold rRoot; rw [hk, turn_mod]
  have HE := Lib.hid he
  clear he hk
  go_enter Tryd.func20, Tryd.ntmps20
  go_wp2
  go_ret
  exact ⟨ret_int HE.out, rfl⟩

set_option maxHeartbeats 1000000 in
theorem turned7 (x : Int) (w : World) :
    Calls Tryd.prog 27 #[.int .i64 7, .int .i64 x] w fun e w' => e = .returned (.int .i64 (turn x)) ∧ w = w' := by
  go_enter Tryd.func27, Tryd.ntmps27
  go_wp2
  go_loop [5, 6] (fun o i => ∃ k : Nat, k ≤ 7 ∧ i = .int .i64 k ∧ o = .int .i64 (tpart x k)) (fun _ i => 7 - (intOf i).toNat)
  case atStart => exact ⟨0, Nat.zero_le _, rfl, rfl⟩
  case round =>
    obtain ⟨k, hk, rfl, rfl⟩ := hrel
    match k, hk with
    | 0, hk =>
      obtain ⟨b0, b1⟩ := tpart_b0 x
      have hs := Lib.hid (tpart_s0 x)
      have he : bits BinOp.and IntKind.i64 x 1 = x % 2 := and1 _
      go_wp2
      go_round
      case rel => exact ⟨1, by omega, rfl, congrArg _ hs.out⟩
      case measure => simp [intOf]
    | 1, hk =>
      obtain ⟨b0, b1⟩ := tpart_b1 x
      have hs := Lib.hid (tpart_s1 x)
      have he : bits BinOp.and IntKind.i64 (x / 2) 1 = (x / 2) % 2 := and1 _
      go_wp2
      go_round
      case rel => exact ⟨2, by omega, rfl, congrArg _ hs.out⟩
      case measure => simp [intOf]
    | 2, hk =>
      obtain ⟨b0, b1⟩ := tpart_b2 x
      have hs := Lib.hid (tpart_s2 x)
      have he : bits BinOp.and IntKind.i64 (x / 4) 1 = (x / 4) % 2 := and1 _
      go_wp2
      go_round
      case rel => exact ⟨3, by omega, rfl, congrArg _ hs.out⟩
      case measure => simp [intOf]
    | 3, hk =>
      obtain ⟨b0, b1⟩ := tpart_b3 x
      have hs := Lib.hid (tpart_s3 x)
      have he : bits BinOp.and IntKind.i64 (x / 8) 1 = (x / 8) % 2 := and1 _
      go_wp2
      go_round
      case rel => exact ⟨4, by omega, rfl, congrArg _ hs.out⟩
      case measure => simp [intOf]
    | 4, hk =>
      obtain ⟨b0, b1⟩ := tpart_b4 x
      have hs := Lib.hid (tpart_s4 x)
      have he : bits BinOp.and IntKind.i64 (x / 16) 1 = (x / 16) % 2 := and1 _
      go_wp2
      go_round
      case rel => exact ⟨5, by omega, rfl, congrArg _ hs.out⟩
      case measure => simp [intOf]
    | 5, hk =>
      obtain ⟨b0, b1⟩ := tpart_b5 x
      have hs := Lib.hid (tpart_s5 x)
      have he : bits BinOp.and IntKind.i64 (x / 32) 1 = (x / 32) % 2 := and1 _
      go_wp2
      go_round
      case rel => exact ⟨6, by omega, rfl, congrArg _ hs.out⟩
      case measure => simp [intOf]
    | 6, hk =>
      obtain ⟨b0, b1⟩ := tpart_b6 x
      have hs := Lib.hid (tpart_s6 x)
      have he : bits BinOp.and IntKind.i64 (x / 64) 1 = (x / 64) % 2 := and1 _
      go_wp2
      go_round
      case rel => exact ⟨7, by omega, rfl, congrArg _ hs.out⟩
      case measure => simp [intOf]
    | 7, hk =>
      go_wp2
      go_ret
      exact ⟨rfl, rfl⟩

set_option maxHeartbeats 400000 in
theorem refRoot_any (i : Int) (w : World) :
    Calls Tryd.prog 21 #[.int .i64 i] w fun e w' => e = .returned (.int .i64 (rRoot i)) ∧ w = w' := by
  have t0 : turn i ≤ 127 := (tpart_b7 i).2
  go_enter Tryd.func21, Tryd.ntmps21
  go_wp2_with (first | (go_at_call 27; refine (turned7 _ _).mono ?_; rintro e w' ⟨rfl, rfl⟩) | (go_at_call 19; refine (refPow_any _ _ _ (by omega)).mono ?_; rintro e w' ⟨rfl, rfl⟩))
  go_ret
  exact ⟨rfl, rfl⟩

end Go.Proofs.YtlaejnbkgikfcaaDoor
