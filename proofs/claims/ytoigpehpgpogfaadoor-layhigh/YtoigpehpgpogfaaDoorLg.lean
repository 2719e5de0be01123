/- Contract: what every program answers that is one. -/
import Derived.Test.YtoigpehpgpogfaaDoorLf
import Derived.Deep.RegionHeld3
namespace Go.Proofs.YtoigpehpgpogfaaDoor
open Go.RowKit Slices Go.Proofs.YtoigpehpgpogfaaDoor.Bit

theorem make_ints (N : Nat) (hN : N ≤ 4000) : ∃ Z : Array Value, Z.toList = ints .i64 (List.replicate N 0) ∧ Z.size = N ∧ ∀ w : World, (Instr.makeSlice 22 (.int .i64 N) (.int .i64 N)).run Tryd.prog w = .ok (.slice (some ⟨w.heap.size, 0, none⟩) N N) (w.alloc (.cells Z 3)) := by
  obtain ⟨i0, hi0, hz0, hz1, hz2⟩ := info_parts Tryd.info3
  refine ⟨madeCells (Value.int IntKind.i64 0).cells (N * 1), made_ints .i64 N, by rw [size_madeCells, Nat.mul_one], fun w => ?_⟩
  have := run_make (P := Tryd.prog) w 22 3 i0 (.int .i64 0) Tryd.underlying22 hi0 hz0 .i64 .i64 N N (by omega) (by omega) (by rw [hz2]; omega) (by omega)
  rw [hz1] at this
  exact this
theorem make_bytes (N : Nat) (hN : N ≤ 4000) : ∃ Z : Array Value, Z.toList = ints .u8 (List.replicate N 0) ∧ Z.size = N ∧ ∀ w : World, (Instr.makeSlice 23 (.int .i64 N) (.int .i64 N)).run Tryd.prog w = .ok (.slice (some ⟨w.heap.size, 0, none⟩) N N) (w.alloc (.cells Z 5)) := by
  obtain ⟨i0, hi0, hz0, hz1, hz2⟩ := info_parts Tryd.info5
  refine ⟨madeCells (Value.int IntKind.u8 0).cells (N * 1), made_ints .u8 N, by rw [size_madeCells, Nat.mul_one], fun w => ?_⟩
  have := run_make (P := Tryd.prog) w 23 5 i0 (.int .u8 0) Tryd.underlying23 hi0 hz0 .i64 .i64 N N (by omega) (by omega) (by rw [hz2]; omega) (by omega)
  rw [hz1] at this
  exact this
theorem zero_own {κ : IntKind} {t : TypeId} {w : World} {B N : Nat} {Z : Array Value} (hZ : Z.toList = ints κ (List.replicate N 0)) (hs : Z.size = N) (hN : N ≤ 4000) (h0 : 0 < N) (hB : B ≤ w.heap.size) : (w.alloc (.cells Z t)).ownsRow B t 1 (.slice (some ⟨w.heap.size, 0, none⟩) N N) N (ints κ (List.replicate N 0)) := by
  rw [← hZ]; exact World.ownsRow_lit w Z N hB (by unfold maxLen; omega) (by omega)
theorem zero_has {κ : IntKind} {t : TypeId} {w : World} {N : Nat} {Z : Array Value} (hZ : Z.toList = ints κ (List.replicate N 0)) (hs : Z.size = N) (hN : N ≤ 4000) (h0 : 0 < N) : Has κ (w.alloc (.cells Z t)) (w.alloc (.cells Z t)).heap.size (some ⟨w.heap.size, 0, none⟩) (List.replicate N 0) :=
  own_has (zero_own hZ hs hN h0 (Nat.le_refl _))

theorem far_awake : farI 1 2 (List.replicate 64 0) = List.replicate 256 2 := by decide +kernel
theorem zeros_at (N k : Nat) : (List.replicate N (0 : Int)).getD k 0 = 0 := by
  rw [List.getD_eq_getElem?_getD, List.getElem?_replicate]; split <;> rfl
theorem zeros_fit (N : Nat) : Fit 8 (List.replicate N 0) := fun i _ => by rw [zeros_at]; exact ⟨by omega, by decide⟩
theorem near_awake : (nearI 2 2 (List.replicate 256 0)).length = 96 := by
  have hw : widthI 2 2 = 3 := by decide
  have hok : NearOk 2 2 (List.replicate 256 0) := by
    refine ⟨by rw [hw]; omega, ⟨List.length_replicate, fun k _ => by rw [zeros_at]; unfold okN; omega⟩, fun j _ => ?_⟩
    rw [zeros_at]; unfold about; rw [if_neg (by omega)]; omega
  have hf := less_fit hok
  rw [near_yes hok]
  rw [hw] at hf ⊢
  rw [packI_yes (d := 3) (by omega) (by omega) hf, int_len, packN_len, nat_len, lessL_len, List.length_replicate]

set_option maxRecDepth 100000 in
set_option maxHeartbeats 4000000 in
theorem awake_any (P : LayOk) (w : World) (hg : Han w) :
    Calls Tryd.prog 8 #[] w fun e w' => e = .returned (.bool true) ∧ Below w.heap.size w w' := by
  obtain ⟨Z1, z1, s1, m1⟩ := make_bytes 64 (by omega)
  obtain ⟨Z2, z2, s2, m2⟩ := make_ints 256 (by omega)
  replace m1 : ∀ w : World, (Instr.makeSlice 23 (.int .i64 64) (.int .i64 64)).run Tryd.prog w = .ok (.slice (some ⟨w.heap.size, 0, none⟩) 64 64) (w.alloc (.cells Z1 5)) := m1
  replace m2 : ∀ w : World, (Instr.makeSlice 22 (.int .i64 256) (.int .i64 256)).run Tryd.prog w = .ok (.slice (some ⟨w.heap.size, 0, none⟩) 256 256) (w.alloc (.cells Z2 3)) := m2
  have PS : Hid (∀ w : World, Calls Tryd.prog 15 #[.int .i64 1] w fun e w' => e = .returned (.tuple #[.int .i64 1312, .int .i64 2560, .int .i64 2420]) ∧ Below w.heap.size w w') := P.sizes 1
  have HG := Lib.hid hg
  have HZ1 : Hid (∀ w : World, Has .u8 (w.alloc (.cells Z1 5)) (w.alloc (.cells Z1 5)).heap.size (some ⟨w.heap.size, 0, none⟩) (List.replicate 64 0)) := fun w => zero_has z1 s1 (by omega) (by omega)
  have HZ2 : Hid (∀ w : World, Has .i64 (w.alloc (.cells Z2 3)) (w.alloc (.cells Z2 3)).heap.size (some ⟨w.heap.size, 0, none⟩) (List.replicate 256 0)) := fun w => zero_has z2 s2 (by omega) (by omega)
  clear hg z1 z2 s1 s2
  go_enter Tryd.func8, Tryd.ntmps8
  go_wp2_with (first
    | (go_at_call 15; refine (PS.out _).mono ?_; rintro e w1 ⟨rfl, hb⟩; have HB := Lib.hid hb; clear hb)
    | (go_at_call 12; refine (P.far 1 2 (some ⟨w1.heap.size, 0, none⟩) 64 64 (List.replicate 64 0) _ (by simp) (HZ1.out _) (zeros_fit _) (by simp)).mono ?_; rw [far_awake]; rintro e w2 ⟨A, c, rfl, ho, hb⟩; have HO := Lib.hid ho; have HB2 := Lib.hid hb; clear ho hb))
  have hb2 : Below w.heap.size w w2 := struct_below HB.out HB2.out
  obtain ⟨g, cg, e, hgB⟩ := own_form HO.out (by simp)
  injection e with e1 e2 e3
  subst e1
  have cF := own_cell HO.out (k := 0) (by simp)
  have HC : Hid (w2.cell? ⟨g, 0, none⟩ = some (.int .i64 2)) := cF
  have HB3 := Lib.hid hb2
  clear hb2 cF HB HB2 HO e2 e3 hgB
  go_wp2_with fail
  refine (P.none w2).mono ?_
  rintro e w3 ⟨v, rfl, hv, hb3⟩
  have hc3 : w3.cell? ⟨g, 0, none⟩ = some (.int .i64 2) := cell_below HC.out hb3
  have HV := Lib.hid hv
  have HB4 := Lib.hid (below_next HB3.out hb3)
  clear hb3 hv HC HB3
  go_wp2_with (first
    | (go_at_call 33; refine (num_any 2 v _ (HG.out.below HB4.out) HV.out).mono ?_; rintro e w4 ⟨rfl, hb⟩; have HB5 := Lib.hid (below_next HB4.out hb); clear hb)
    | (go_at_call 11; refine (P.near 2 2 (some ⟨w4.heap.size, 0, none⟩) 256 256 (List.replicate 256 0) _ (by simp) (HZ2.out _) (by simp)).mono ?_; rintro e w5 ⟨A5, c5, rfl, ho, hb⟩; rw [near_awake] at ho ⊢; have HB6 := Lib.hid hb; clear ho hb))
  go_ret
  exact ⟨rfl, struct_below HB5.out HB6.out⟩
end Go.Proofs.YtoigpehpgpogfaaDoor
