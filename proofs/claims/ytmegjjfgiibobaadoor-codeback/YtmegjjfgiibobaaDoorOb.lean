/- Contracts: the landed code's bytes: with room, a number behind them, numbers. -/
import Derived.Test.YtmegjjfgiibobaaDoorOa
import Derived.Test.YtmegjjfgiibobaaDoorCj
namespace Go.Proofs.YtmegjjfgiibobaaDoor
open Go.RowKit Slices Go.Proofs.YtmegjjfgiibobaaDoor.Bit

/-- bytes that a call made: as many as n, L -/
def Row (B : Nat) (w : World) (n : Nat) (L : List Int) (e : Ending) (w' : World) : Prop :=
  ∃ A' c', e = .returned (.slice A' n c') ∧ w'.ownsRow B 5 1 (.slice A' n c') n (ints .u8 L) ∧ Below B w w'
theorem row_of {B n : Nat} {w w' : World} {v : Value} {L : List Int} (h : w'.ownsRow B 5 1 v n (ints .u8 L)) (hb : Below B w w') : Row B w n L (.returned v) w' := by
  obtain ⟨A, c, rfl⟩ := own_slice h
  exact ⟨A, c, rfl, h, hb⟩
theorem below_own {B n : Nat} {w0 w w' : World} {v : Value} {xs : List Value} (h : Below B w0 w) (hg : w.grownBy w' v.ownBlock) (ho : w.ownsRow B 5 1 v n xs) (hB : B ≤ w.heap.size) : Below B w0 w' :=
  h.grown hg hB (fun q hq => (ho.lt q hq).1)

set_option maxRecDepth 100000 in
set_option maxHeartbeats 1000000 in
theorem withRoom_any (A : Option Addr) (n c : Nat) (b : List Int) (m : Nat) (w : World) (h : Has .u8 w w.heap.size A b) (hn : n = b.length) (hA : A = none → n = 0 ∧ c = 0) (hl : n ≤ 40000) (hm : m ≤ 40000) :
    Calls Tryd.prog 32 #[.slice A n c, .int .i64 (m : Int)] w (Row w.heap.size w n b) := by
  obtain ⟨i0, hi0, hz0, hz1, hz2⟩ := info_parts Tryd.info5
  have H := Lib.hid h
  have HA := Lib.hid hA
  have HN := Lib.hid hn
  clear h hA hn
  go_enter Tryd.func32, Tryd.ntmps32
  go_wp2_with (first
    | (at_make; refine wpList_make_own _ rfl _ _ 22 rfl w.heap.size 5 i0 (.int .u8 0) 1 Tryd.underlying22 hi0 hz0 hz1 _ _ _ (n + m) rfl rfl (by omega) (by rw [hz2]; omega) (by unfold maxLen; omega) (Nat.le_refl _) ?_; intro w1 hown hgrow; have HO := Lib.hid hown; clear hown; have HG := Lib.hid hgrow; clear hgrow)
    | (at_builtin; refine append_any _ rfl _ _ 22 rfl w.heap.size 5 i0 (.int .u8 0) 1 1 Tryd.underlying22 hi0 hz0 hz1 hz2 rfl (by decide) _ 0 [] rfl HO.out A n c (ints .u8 b) rfl (by rw [ints_length, HN.out, Nat.mul_one]) HA.out (fun ad e j u hu => HG.out.cell (H.out.cells ad e j u hu) (by simp)) (ints_one _ _) (by unfold maxLen; omega) (by omega) HG.out.size ?_; intro v2 w2 hown2 hgrow2; have HO2 := Lib.hid hown2; clear hown2; have HG2 := Lib.hid hgrow2; clear hgrow2))
  go_ret
  have o2 : w2.ownsRow w.heap.size 5 1 v2 n (ints .u8 b) := by have := HO2.out; rwa [List.nil_append, Nat.zero_add] at this
  exact row_of o2 (below_own ((Below.refl _ _).grown HG.out (Nat.le_refl _) (by simp)) HG2.out HO.out HG.out.size)

/-- the first m bytes of x are laid behind b -/
def AdRow (B n : Nat) (w : World) (b : List Int) (x : Int) (m : Nat) (v : Value) (wr : World) : Prop :=
  wr.ownsRow B 5 1 v (n + m) (ints .u8 (b ++ beTo x m)) ∧ Below B w wr

set_option maxRecDepth 100000 in
set_option maxHeartbeats 1000000 in
theorem addNumber_any (B n c : Nat) (A : Option Addr) (b : List Int) (x : Int) (w : World) (h : w.ownsRow B 5 1 (.slice A n c) n (ints .u8 b)) (hB : B ≤ w.heap.size) (hl : n ≤ 100000) :
    Calls Tryd.prog 33 #[.slice A n c, .int .i64 x] w (Row B w (n + 8) (b ++ be8 x)) := by
  obtain ⟨i0, hi0, hz0, hz1, hz2⟩ := info_parts Tryd.info5
  have HS : Hid (AdRow B n w b x 0 (.slice A n c) w) := ⟨by simpa [beTo] using h, Below.refl _ _⟩
  clear h
  go_enter Tryd.func33, Tryd.ntmps33
  go_wp2
  go_loopw [0, 5] (fun v i wr => ∃ m : Nat, m ≤ 8 ∧ i = .int .i64 (56 - 8 * (m : Int)) ∧ AdRow B n w b x m v wr) (fun _ i _ => (intOf i + 8).toNat)
  case atStart => exact ⟨0, by omega, rfl, HS.out⟩
  case round =>
    obtain ⟨m, hm, rfl, hrow⟩ := hrel
    have HM := Lib.hid hrow
    clear hrow HS
    by_cases hm8 : m < 8
    · have d0 : decide (0 ≤ 56 - 8 * (m : Int)) = true := by rw [decide_eq_true_iff]; omega
      have HBY : Hid (x / 2 ^ (56 - 8 * m) % 256 = byteAt x (7 - m)) := by rw [show 56 - 8 * m = 8 * (7 - m) by omega]; exact byte_shr x (7 - m) (by omega)
      have hsz : B ≤ wr.heap.size := Nat.le_trans hB HM.out.2.size
      go_wp2_with (at_builtin; refine append_any _ rfl (.tmp 10) (.tmp 15) 22 rfl B 5 i0 (.int .u8 0) 1 1 Tryd.underlying22 hi0 hz0 hz1 hz2 rfl (by decide) u0 (n + m) _ rfl (HM.out.1.alloc _) (some ⟨wr.heap.size, 0, none⟩) 1 1 [.int .u8 (x / 2 ^ (56 - 8 * m) % 256)] rfl rfl (fun h => by cases h) (fun ad e => by injection e with e; subst e; exact World.news_of_block (cs := #[.int .u8 (x / 2 ^ (56 - 8 * m) % 256)]) (t := 5) (fr := (0, 0)) (heap_alloc_new wr _)) (by simp [Value.oneCell']) (by unfold maxLen; omega) (by omega) (by simp; omega) ?_; intro v4 w4 hown4 hgrow4; have O4 := Lib.hid hown4; have G4 := Lib.hid hgrow4; clear hown4 hgrow4)
      have HNX : Hid (AdRow B n w b x (m + 1) v4 w4) := by
        refine ⟨?_, below_own (HM.out.2.alloc hsz _) G4.out (HM.out.1.alloc _) (by simp; omega)⟩
        have q := O4.out
        rw [HBY.out, ints_snoc, List.append_assoc, ← beTo_succ] at q
        exact q
      clear O4 G4
      go_roundw
      case rel => exact ⟨m + 1, by omega, by go_num, HNX.out⟩
      case measure => simp [intOf]; omega
    · have e : m = 8 := by omega
      subst e
      have d0 : decide (0 ≤ 56 - 8 * ((8 : Nat) : Int)) = false := by decide
      go_wp2
      go_ret
      exact row_of HM.out.1 HM.out.2
end Go.Proofs.YtmegjjfgiibobaaDoor
