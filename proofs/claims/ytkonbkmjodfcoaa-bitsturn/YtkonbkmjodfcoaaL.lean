/- The law BitsTurn, walked. -/
import Derived.Test.YtkonbkmjodfcoaaK
namespace Go.Proofs.Ytkonbkmjodfcoaa.Bit
open Go

/-- which numbers were told, when the first i were turned -/
def met (D P i : Nat) : List Bool := (List.range P).map fun n => decide (turnN D n < i)
theorem met_len (D P i : Nat) : (met D P i).length = P := by simp [met]
theorem met_zero (D P : Nat) : met D P 0 = List.replicate P false := by
  apply List.ext_getElem (by simp [met])
  intro i h1 h2
  simp [met]
theorem turn_back {D i : Nat} (h : i < 2 ^ D) : turnN D (turnN D i) = i := by rw [turn_turn, Nat.mod_eq_of_lt h]
theorem met_new {D P i : Nat} (hP : P = 2 ^ D) (hi : i < P) : (met D P i)[turnN D i]? = some false := by
  subst hP
  have : turnN D i < 2 ^ D := turnN_lt D i
  simp [met, List.getElem?_range this, turn_back hi]
theorem met_next {D P i : Nat} (hP : P = 2 ^ D) (hi : i < P) : (met D P i).set (turnN D i) true = met D P (i + 1) := by
  subst hP
  apply List.ext_getElem (by simp [met])
  intro n h1 h2
  have hn : n < 2 ^ D := by simpa [met] using h2
  rw [List.getElem_set]
  by_cases h : turnN D i = n
  · subst h
    simp [met, turn_back hi]
  · rw [if_neg h]
    have : turnN D n ≠ i := fun e => h (by rw [← e]; exact turn_back hn)
    simp only [met, List.getElem_map, List.getElem_range]
    congr 1
    apply propext
    omega
theorem turnI_nat {D i : Nat} (hD : D ≤ 62) : turnI (D : Int) (i : Int) = ((turnN D i : Nat) : Int) := by rw [turnI_yes _ hD, turnP_nat]
theorem turnI_twice {W : Nat} (x : Int) (hW : W ≤ 62) : turnI W (turnI W x) = lowI W x := by rw [turnI_yes _ hW, turnI_yes _ hW, lowI_yes _ hW, turnP_turn]
end Go.Proofs.Ytkonbkmjodfcoaa.Bit

namespace Go.Proofs.Ytkonbkmjodfcoaa
open Go.RowKit Slices Go.Proofs.Ytkonbkmjodfcoaa.Bit
theorem Try.info4 : (Try.prog.info? 4).map (fun i => (i.zero, i.size, i.bytes)) = some (some (.bool false), 1, 1) := by kernel_rfl
def bools (l : List Bool) : List Value := l.map Value.bool
theorem made_bools (N : Nat) : (madeCells (Value.bool false).cells (N * 1)).toList = bools (List.replicate N false) := by
  rw [Nat.mul_one]
  show (madeCells #[Value.bool false] N).toList = _
  rw [toList_madeCells_one]; simp [bools]
/-- the row of what was told -/
def MRow (w : World) (g D P i : Nat) (wr : World) : Prop :=
  wr.ownsRow w.heap.size 4 1 (.slice (some ⟨g, 0, none⟩) P P) P (bools (met D P i)) ∧ Below w.heap.size w wr ∧ w.heap.size ≤ g
theorem MRow.cell {w wr : World} {g D P i : Nat} (h : MRow w g D P i wr) (hP : P = 2 ^ D) (hi : i < P) : wr.cell? ⟨g, turnN D i, none⟩ = some (.bool false) := by
  have hlt : turnN D i < P := by rw [hP]; exact turnN_lt D i
  rw [h.1.cellAt _ (by omega)]
  show (bools (met D P i))[turnN D i]? = _
  unfold bools
  rw [List.getElem?_map, met_new hP hi]; rfl
theorem MRow.put {w wr : World} {g D P i : Nat} (h : MRow w g D P i wr) (hP : P = 2 ^ D) (hi : i < P) : MRow w g D P (i + 1) (wr.setCell ⟨g, turnN D i, none⟩ (.bool true)) := by
  refine ⟨?_, h.2.1.setCell h.2.2 _, h.2.2⟩
  rw [← met_next hP hi]
  have := (h.1.stored (turnN D i) (.bool true)).1
  have e : (bools (met D P i)).set (turnN D i) (.bool true) = bools ((met D P i).set (turnN D i) true) := by simp [bools, List.map_set]
  rwa [e] at this

set_option maxRecDepth 100000 in
set_option maxHeartbeats 1000000 in
theorem turns_walk (d x : Int) (w : World) :
    Calls Try.prog 5 #[.int .i64 d, .int .i64 x] w fun e w' => e = .returned (.bool true) ∧ Below w.heap.size w w' := by
  obtain ⟨i0, hi0, hz0, hz1, hz2⟩ := info_parts Try.info4
  obtain ⟨W, hW⟩ := Int.eq_ofNat_of_zero_le (low_lo d (n := 63) (by omega))
  have hW1 := low_hi d (n := 63) (by omega)
  obtain ⟨D, hD⟩ := Int.eq_ofNat_of_zero_le (low_lo d (n := 9) (by omega))
  have hD1 := low_hi d (n := 9) (by omega)
  rw [hW] at hW1
  rw [hD] at hD1
  have HTW := Lib.hid (turnI_twice (W := W) x (by omega))
  obtain ⟨P, hP, hP2⟩ : ∃ P : Nat, (2 : Int) ^ D = (P : Int) ∧ P = 2 ^ D := ⟨2 ^ D, pow_cast D, rfl⟩
  have p0 : 1 ≤ P := by rw [hP2]; exact Nat.two_pow_pos D
  have p1 : P ≤ 256 := by rw [hP2]; exact Nat.pow_le_pow_right (n := 2) (by decide) (by omega : D ≤ 8)
  have HP2 := Lib.hid hP2
  clear hP2
  go_enter Try.func5, Try.ntmps5
  go_wp2_with fail
  refine (lawLow_any d 63 w (by omega) (by omega)).mono ?_
  rw [hW]
  rintro e w' ⟨rfl, rfl⟩
  go_wp2_with fail
  refine (turn_any W x w).mono ?_
  rintro e w' ⟨rfl, rfl⟩
  go_wp2_with fail
  refine (turn_any W _ w).mono ?_
  rw [HTW.out]
  rintro e w' ⟨rfl, rfl⟩
  go_wp2_with fail
  refine (low_any W x w).mono ?_
  rintro e w' ⟨rfl, rfl⟩
  clear HTW
  generalize lowI W x = y
  generalize turnI W x = z
  go_wp2_with fail
  refine (lawLow_any d 9 w (by omega) (by omega)).mono ?_
  rw [hD]
  rintro e w' ⟨rfl, rfl⟩
  go_wp2_with (at_make; refine wpList_make_full _ rfl _ _ 37 rfl w.heap.size 4 i0 (.bool false) 1 Try.underlying37 hi0 hz0 hz1 _ _ _ _ P rfl rfl (by omega) (by omega) (by rw [hz2]; omega) (by unfold maxLen; omega) (Nat.le_refl _) ?_; intro w1 hown hgrow; rw [made_bools] at hown; have HO := Lib.hid hown; clear hown; have HG := Lib.hid hgrow; clear hgrow)
  have hst : MRow w w.heap.size D P 0 w1 := ⟨by rw [met_zero]; exact HO.out, (Below.refl _ _).grown HG.out (Nat.le_refl _) (by simp), Nat.le_refl _⟩
  have HST := Lib.hid hst
  clear hst HO HG
  go_loopw [7] (fun i wr => ∃ k : Nat, k ≤ P ∧ i = .int .i64 k ∧ MRow w w.heap.size D P k wr) (fun i _ => P - (intOf i).toNat)
  case atStart => exact ⟨0, Nat.zero_le _, rfl, HST.out⟩
  case round =>
    obtain ⟨k, hk, rfl, hr⟩ := hrel
    have HR := Lib.hid hr
    clear hr HST
    by_cases hlt : k < P
    · have hc := HR.out.cell HP2.out hlt
      have hf := HR.out.1.frozenAt (turnN D k)
      have htl : turnN D k < P := by have := turnN_lt D k; rw [← HP2.out] at this; exact this
      have HN := Lib.hid (HR.out.put HP2.out hlt)
      have HT := Lib.hid (turnI_nat (D := D) (i := k) (by omega))
      generalize turnN D k = t at hc hf htl HN HT
      have t1 : decide ((t : Int) < 0) = false := by rw [decide_eq_false_iff_not]; omega
      have t2 : decide ((P : Int) ≤ (t : Int)) = false := by rw [decide_eq_false_iff_not]; omega
      go_wp2_with (go_at_call 19; refine (turn_any D k _).mono ?_; rw [HT.out]; rintro e w' ⟨rfl, rfl⟩)
      go_roundw
      case rel => exact ⟨k + 1, by omega, by go_num, HN.out⟩
      case measure => simp [intOf]; omega
    · go_wp2_with (go_at_call 8; refine (awake_any _).mono ?_; rintro e w' ⟨rfl, hb⟩)
      go_ret
      exact ⟨rfl, below_next HR.out.2.1 (by assumption)⟩
end Go.Proofs.Ytkonbkmjodfcoaa
