/- Contracts: the small functions of bits, and the document's own. -/
import Derived.Test.YtoigpehpgpogfaaDoorProg
import Derived.Test.YtoigpehpgpogfaaDoorWords
import Derived.Test.YtoigpehpgpogfaaDoorNums
namespace Go.Proofs.YtoigpehpgpogfaaDoor
open Go.RowKit Slices Go.Proofs.YtoigpehpgpogfaaDoor.Bit
theorem ret_int {k : IntKind} {a b : Int} (h : a = b) : Ending.returned (.int k a) = .returned (.int k b) := by rw [h]

set_option maxHeartbeats 400000 in
theorem lowest_any (d : Nat) (w : World) (hd : d ≤ 62) :
    Calls Tryd.prog 61 #[.int .i64 d] w fun e w' => e = .returned (.int .i64 ((2 ^ d : Nat) - 1 : Int)) ∧ w = w' := by
  have hp := pow_cast d
  have h1 := pow_le62 hd
  have h0 := Nat.two_pow_pos d
  generalize 2 ^ d = P at hp h1 h0
  go_enter Tryd.func61, Tryd.ntmps61
  go_wp2
  go_ret
  exact ⟨rfl, rfl⟩

theorem lowest_as (d : Nat) (P : Int) (w : World) (hd : d ≤ 62) (hP : (2 : Int) ^ d = P) :
    Calls Tryd.prog 61 #[.int .i64 d] w fun e w' => e = .returned (.int .i64 (P - 1)) ∧ w = w' := by
  subst hP
  rw [pow_cast]
  exact lowest_any d w hd

set_option maxHeartbeats 400000 in
theorem isPacked_yes (d : Int) (w : World) (h1 : 1 ≤ d) (h2 : d ≤ 24) :
    Calls Tryd.prog 57 #[.int .i64 d] w fun e w' => e = .returned (.bool true) ∧ w = w' := by
  go_enter Tryd.func57, Tryd.ntmps57
  go_wp2
  go_ret
  exact ⟨rfl, rfl⟩
set_option maxHeartbeats 400000 in
theorem isPacked_no (d : Int) (w : World) (h : ¬ (1 ≤ d ∧ d ≤ 24)) :
    Calls Tryd.prog 57 #[.int .i64 d] w fun e w' => e = .returned (.bool false) ∧ w = w' := by
  by_cases h1 : d < 1
  · clear h
    go_enter Tryd.func57, Tryd.ntmps57
    go_wp2
    go_ret
    exact ⟨rfl, rfl⟩
  · have h2 : decide (d ≤ 24) = false := by rw [decide_eq_false_iff_not]; omega
    clear h
    go_enter Tryd.func57, Tryd.ntmps57
    go_wp2
    go_ret
    exact ⟨rfl, rfl⟩
/-- the statements' own remainder -/
def low (x n : Int) : Int := x % 18446744073709551616 % n
theorem low_lo (x : Int) {n : Int} (h : 1 ≤ n) : 0 ≤ low x n := Int.emod_nonneg _ (by omega)
theorem low_hi (x : Int) {n : Int} (h : 1 ≤ n) : low x n < n := Int.emod_lt_of_pos _ (by omega)
theorem wrap_low (x n : Int) (h0 : 1 ≤ n) (h1 : n ≤ 4611686018427387904) : wrap64 ((IntKind.u64.wrap x).tmod n) = low x n := by
  have e : IntKind.u64.wrap x = x % 18446744073709551616 := by simp [IntKind.wrap, IntKind.bits, IntKind.signed]
  rw [e, Int.tmod_eq_emod_of_nonneg (by omega)]
  have l0 := low_lo x h0
  have l1 := low_hi x h0
  exact IntWalk.wrap64_in _ (by show -9223372036854775808 ≤ low x n ∧ low x n ≤ 9223372036854775807; omega)

set_option maxHeartbeats 400000 in
theorem lawLow_any (x n : Int) (w : World) (h0 : 1 ≤ n) (h1 : n ≤ 4611686018427387904) :
    Calls Tryd.prog 25 #[.int .i64 x, .int .i64 n] w fun e w' => e = .returned (.int .i64 (low x n)) ∧ w = w' := by
  go_enter Tryd.func25, Tryd.ntmps25
  go_wp2
  go_ret
  exact ⟨ret_int (wrap_low x n h0 h1), rfl⟩
end Go.Proofs.YtoigpehpgpogfaaDoor
