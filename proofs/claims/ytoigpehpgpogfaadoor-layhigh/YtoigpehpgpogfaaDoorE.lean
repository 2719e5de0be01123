/- Contract: numbers that are packed by the program. -/
import Derived.Test.YtoigpehpgpogfaaDoorC
import Derived.Test.YtoigpehpgpogfaaDoorD
namespace Go.Proofs.YtoigpehpgpogfaaDoor
open Go.RowKit Slices Go.Proofs.YtoigpehpgpogfaaDoor.Bit

set_option maxHeartbeats 400000 in
theorem allFit_yes (D : Nat) (A : Option Addr) (c B : Nat) (l : List Int) (w : World) (h : Has .i64 w B A l) (hn : l.length ≤ 4000) (hD : D ≤ 24) (hf : Fit D l) :
    Calls Tryd.prog 58 #[.int .i64 D, .slice A l.length c] w fun e w' => e = .returned (.bool true) ∧ w = w' := by
  have H := Lib.hid h
  have HF := Lib.hid hf
  clear h hf
  obtain ⟨P, hP⟩ : ∃ P : Int, (2 : Int) ^ D = P := ⟨_, rfl⟩
  have HP := Lib.hid hP
  clear hP
  go_enter Tryd.func58, Tryd.ntmps58
  go_wp2
  go_loopw [9] (fun i wr => ∃ k : Nat, k ≤ l.length ∧ i = .int .i64 k ∧ wr = w) (fun i _ => l.length - (intOf i).toNat)
  case atStart => exact ⟨0, Nat.zero_le _, rfl, rfl⟩
  case round =>
    obtain ⟨k, hk, rfl, rfl⟩ := hrel
    by_cases hlt : k < l.length
    · obtain ⟨a, rfl, _, ha⟩ := H.out k hlt
      obtain ⟨x0, x1⟩ := HF.out k hlt
      rw [HP.out] at x1
      generalize l.getD k 0 = x at ha x0 x1
      go_wp2_with (first
        | (go_at_call 61; refine (lowest_as D P _ (by omega) HP.out).mono ?_; rintro e w' ⟨rfl, rfl⟩))
      go_roundw
      case rel => exact ⟨k + 1, by omega, by go_num, trivial⟩
      case measure => simp [intOf]; omega
    · go_wp2
      go_ret
      exact ⟨rfl, rfl⟩

set_option maxHeartbeats 400000 in
theorem allFit_no (D : Nat) (A : Option Addr) (c B : Nat) (l : List Int) (w : World) (h : Has .i64 w B A l) (hn : l.length ≤ 4000) (hD : D ≤ 24) (hf : ¬ Fit D l) :
    Calls Tryd.prog 58 #[.int .i64 D, .slice A l.length c] w fun e w' => e = .returned (.bool false) ∧ w = w' := by
  obtain ⟨j, hj, hb⟩ := not_fit hf
  have H := Lib.hid h
  have HB := Lib.hid hb
  clear h hf hb
  obtain ⟨P, hP⟩ : ∃ P : Int, (2 : Int) ^ D = P := ⟨_, rfl⟩
  have HP := Lib.hid hP
  clear hP
  go_enter Tryd.func58, Tryd.ntmps58
  go_wp2
  go_loopw [9] (fun i wr => ∃ k : Nat, k ≤ j ∧ i = .int .i64 k ∧ wr = w) (fun i _ => l.length - (intOf i).toNat)
  case atStart => exact ⟨0, Nat.zero_le _, rfl, rfl⟩
  case round =>
    obtain ⟨k, hk, rfl, rfl⟩ := hrel
    have hlt : k < l.length := by omega
    obtain ⟨a, rfl, _, ha⟩ := H.out k hlt
    by_cases x0 : l.getD k 0 < 0
    · generalize l.getD k 0 = x at ha x0
      go_wp2
      go_ret
      exact ⟨rfl, rfl⟩
    · by_cases x1 : 2 ^ D ≤ l.getD k 0
      · rw [HP.out] at x1
        generalize l.getD k 0 = x at ha x0 x1
        go_wp2_with (first
          | (go_at_call 61; refine (lowest_as D P _ (by omega) HP.out).mono ?_; rintro e w' ⟨rfl, rfl⟩))
        go_ret
        exact ⟨rfl, rfl⟩
      · have hne : k ≠ j := fun e => by have := HB.out; rw [← e] at this; omega
        have hk' : k + 1 ≤ j := by omega
        clear hne
        rw [HP.out] at x1
        generalize l.getD k 0 = x at ha x0 x1
        go_wp2_with (first
          | (go_at_call 61; refine (lowest_as D P _ (by omega) HP.out).mono ?_; rintro e w' ⟨rfl, rfl⟩))
        go_roundw
        case rel => exact ⟨k + 1, by omega, by go_num, trivial⟩
        case measure => simp [intOf]; omega

/-- the first m bytes are made -/
def PRow (w : World) (D : Nat) (X : List Nat) (m : Nat) (v : Value) (wr : World) : Prop :=
  wr.ownsRow w.heap.size 5 1 v m (ints .u8 (int ((packN D X).take m))) ∧ Below w.heap.size w wr
theorem PRow.more {w wr w1 : World} {D : Nat} {X : List Nat} {m : Nat} {v v1 : Value} {y : Int} (h : PRow w D X m v wr) (hm : m < (D * X.length + 7) / 8) (hy : y = ((held (strm D X) (8 * m) 8 : Nat) : Int))
    (ho : w1.ownsRow w.heap.size 5 1 v1 (m + 1) (ints .u8 (int ((packN D X).take m)) ++ [.int .u8 y])) (hb : Below w.heap.size wr w1) : PRow w D X (m + 1) v1 w1 := by
  refine ⟨?_, h.2.trans hb⟩
  rw [pack_more hm, ← hy, ← ints_snoc]
  exact ho

end Go.Proofs.YtoigpehpgpogfaaDoor
