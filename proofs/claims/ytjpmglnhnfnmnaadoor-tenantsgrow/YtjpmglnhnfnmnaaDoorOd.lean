/- Contracts: errors made and wrapped; lists one behind the other (slices.Concat, by the library's own code). -/
import Derived.Test.YtjpmglnhnfnmnaaDoorTf
import Derived.Lib.AppendZeros
namespace Go.Proofs.YtjpmglnhnfnmnaaDoor
open Go.RowKit Slices

/-- an error whose number is c, not wrapped; of 0 none -/
def IsF (c : Int) (v : Value) (w : World) : Prop := (c = 0 ∧ v = .nilIface) ∨ (c ≠ 0 ∧ ∃ p : Addr, v = .iface 49 (.pointer (some p)) ∧ w.cell? p = some (.int .i64 c))
theorem isF_nil (w : World) : IsF 0 .nilIface w := .inl ⟨rfl, rfl⟩
theorem isF_new {c : Int} {w : World} {x : Value} (h : c ≠ 0) : IsF c (.iface 49 (.pointer (some ⟨w.heap.size, 0, none⟩))) (w.alloc (.cells #[.int .i64 c, x] 54)) :=
  .inr ⟨h, _, rfl, by simp⟩
theorem unless_yes (c : Int) (x : Value) (w : World) :
    Calls Tryd.prog 45 #[.bool true, .int .i64 c, x] w fun e w' => e = .returned .nilIface ∧ w = w' := by
  go_enter Tryd.func45, Tryd.ntmps45
  go_wp2
  go_ret
  exact ⟨rfl, rfl⟩
theorem unless_no (c : Int) (x : ByteArray) (w : World) :
    Calls Tryd.prog 45 #[.bool false, .int .i64 c, .string x] w fun e w' => e = .returned (.iface 49 (.pointer (some ⟨w.heap.size, 0, none⟩))) ∧ w' = w.alloc (.cells #[.int .i64 c, .string x] 54) := by
  go_enter Tryd.func45, Tryd.ntmps45
  go_wp2
  go_ret
  exact ⟨rfl, rfl⟩
theorem wrap_nil (x : ByteArray) (w : World) :
    Calls Tryd.prog 24 #[.string x, .nilIface] w fun e w' => e = .returned .nilIface ∧ w = w' := by
  go_enter Tryd.func24, Tryd.ntmps24
  go_wp2
  go_ret
  exact ⟨rfl, rfl⟩
theorem wrap_one (x : ByteArray) (p : Addr) (w : World) :
    Calls Tryd.prog 24 #[.string x, .iface 49 (.pointer (some p))] w fun e w' => e = .returned (.iface 64 (.pointer (some ⟨w.heap.size, 0, none⟩))) ∧ w' = w.alloc (.cells #[.string x, .iface 49 (.pointer (some p))] 66) := by
  go_enter Tryd.func24, Tryd.ntmps24
  go_wp2
  go_ret
  exact ⟨rfl, rfl⟩
theorem wrap_any (x : ByteArray) (c : Int) (v : Value) (w : World) (h : IsF c v w) :
    Calls Tryd.prog 24 #[.string x, v] w fun e w' => ∃ v', e = .returned v' ∧ IsErr c v' w' ∧ Below w.heap.size w w' := by
  rcases h with ⟨rfl, rfl⟩ | ⟨h0, p, rfl, hc⟩
  · exact (wrap_nil x w).mono fun e w' q => ⟨_, q.1, .inl ⟨rfl, rfl⟩, by rw [← q.2]; exact Below.refl _ _⟩
  · refine (wrap_one x p w).mono fun e w' ⟨q1, q2⟩ => ?_
    subst q2
    exact ⟨_, q1, .inr ⟨h0, _, p, rfl, by simp, cell_alloc hc _⟩, (Below.refl _ _).alloc (Nat.le_refl _) _⟩

set_option maxRecDepth 100000 in
set_option maxHeartbeats 1000000 in
theorem grow_nil (n : Nat) (w : World) (h1 : 1 ≤ n) (hn : n ≤ 1000) :
    Calls Tryd.prog 46 #[.slice none 0 0, .int .i64 n] w fun e w' => ∃ v, e = .returned v ∧ w'.ownsRow w.heap.size 46 3 v 0 [] ∧ Below w.heap.size w w' := by
  obtain ⟨i0, hi0, hz0, hz1, hz2⟩ := info_parts Tryd.infoT
  have hr := fun ty => Lib.run_append_nil_zeros (P := Tryd.prog) w 22 3 ty 46 i0 (.agg #[.int .i64 0, .int .i64 0, .string ByteArray.empty]) .i64 .i64 Tryd.underlying22 Tryd.underlying3 hi0 hz0 n (by omega) (by omega) (by omega) (by rw [hz2]; omega)
  have hge := grownCap_ge w n 0 46
  have hle := grownCap_le_maxLen w n 0 46 (by unfold maxLen; omega)
  generalize grownCap w n 0 46 = C at hr hge hle
  have HR := Lib.hid hr
  have HLE := Lib.hid hle
  clear hr hle
  go_enter Tryd.func46, Tryd.ntmps46
  go_wp2_with (at_builtin; refine Lib.wpList_append_run _ rfl _ _ _ _ rfl _ _ rfl rfl _ _ (HR.out _) ?_)
  go_ret
  refine ⟨_, rfl, ⟨rfl, .inr ⟨w.heap.size, C, _, rfl, Nat.le_refl _, heap_alloc_new w _, Nat.zero_le _, HLE.out, ?_, by simp⟩⟩, ((Below.refl _ _).alloc (Nat.le_refl _) _).drew⟩
  rw [Array.size_append, size_zeroCells, size_zeroCells]
  show n * 3 + (C - n) * 3 = C * 3
  omega

set_option maxRecDepth 100000 in
set_option maxHeartbeats 2000000 in
theorem concat_any (g h n c : Nat) (A : Option Addr) (l : List Ten) (t : Ten) (w : World) (h0 : w.cell? ⟨g, 0, none⟩ = some (.slice A n c)) (h1 : w.cell? ⟨g, 1, none⟩ = some (.slice (some ⟨h, 0, none⟩) 1 1)) (hg : g < w.heap.size)
    (hl : RdT w A n c l) (ht : HasT w w.heap.size (some ⟨h, 0, none⟩) [t]) :
    Calls Tryd.prog 35 #[.slice (some ⟨g, 0, none⟩) 2 2] w fun e w' => ∃ A' c', e = .returned (.slice A' (n + 1) c') ∧ OwnT w' w.heap.size A' (n + 1) c' (l ++ [t]) ∧ Below w.heap.size w w' := by
  obtain ⟨i0, hi0, hz0, hz1, hz2⟩ := info_parts Tryd.infoT
  have HL := Lib.hid hl
  have HT := Lib.hid ht
  have HG := Lib.hid hg
  have few := hl.few
  have HCL : Hid ((cellsT l).length = n * 3) := by rw [hl.len]; exact Lib.hid (cellsT_len l)
  have HNO := Lib.hid hl.none
  have H0 := Lib.hid h0
  have H1 := Lib.hid h1
  clear hl ht hg
  go_enter Tryd.func35, Tryd.ntmps35
  go_wp2
  refine wp_loop_rounds 3 ?_
  rw [rounds_succ]
  go_wp2
  rw [rounds_succ]
  go_wp2
  rw [rounds_succ]
  go_wp2_with (go_at_call 46; refine (grow_nil (n + 1) w (by omega) (by omega)).mono ?_; rintro e w1 ⟨v, rfl, ho, hb⟩; have HO := Lib.hid ho; have HB := Lib.hid hb; have k0 := (hb.cell (p := ⟨g, 0, none⟩) HG.out).trans H0.out; have k1 := (hb.cell (p := ⟨g, 1, none⟩) HG.out).trans H1.out; clear ho hb h0 h1)
  have L1 := Lib.hid (HL.out.next HB.out)
  refine wp_loop_rounds 3 ?_
  rw [rounds_succ]
  go_wp2_with (at_builtin; refine append_any _ rfl (.tmp 31) (.tmp 32) 22 rfl w.heap.size 46 i0 (.agg #[.int .i64 0, .int .i64 0, .string ByteArray.empty]) 3 32 Tryd.underlying22 hi0 hz0 hz1 hz2 rfl (by decide) v 0 [] rfl HO.out A n c (cellsT l) rfl HCL.out HNO.out L1.out.has.cells (cellsT_plain l) (by unfold maxLen; omega) (by omega) HB.out.size ?_; intro v4 w4 hown hgr; have O4 := Lib.hid hown; have N4 : Hid (Below w.heap.size w w4) := HB.out.grown hgr HB.out.size (fun q hq => (HO.out.lt q hq).1); have j1 := (N4.out.cell (p := ⟨g, 1, none⟩) HG.out).trans H1.out; clear hown hgr k0 k1)
  rw [rounds_succ]
  have T4 := Lib.hid (HT.out.next N4.out)
  go_wp2_with (at_builtin; refine append_any _ rfl (.tmp 31) (.tmp 32) 22 rfl w.heap.size 46 i0 (.agg #[.int .i64 0, .int .i64 0, .string ByteArray.empty]) 3 32 Tryd.underlying22 hi0 hz0 hz1 hz2 rfl (by decide) v4 (0 + n) _ rfl O4.out (some ⟨h, 0, none⟩) 1 1 (cellsT [t]) rfl rfl (fun h => by cases h) T4.out.cells (cellsT_plain _) (by unfold maxLen; omega) (by omega) N4.out.size ?_; intro v5 w5 hown hgr; have O5 := Lib.hid hown; have N5 : Hid (Below w.heap.size w w5) := N4.out.grown hgr N4.out.size (fun q hq => (O4.out.lt q hq).1); clear hown hgr j1)
  rw [rounds_succ]
  go_wp2
  go_ret
  have P5 : w5.ownsRow w.heap.size 46 3 v5 (n + 1) (cellsT (l ++ [t])) := by
    have q := O5.out
    rw [Nat.zero_add, List.nil_append, ← cellsT_app] at q
    exact q
  obtain ⟨A5, c5, rfl⟩ := ownT_slice P5
  exact ⟨A5, c5, rfl, P5, N5.out⟩

theorem ownT_mono {w : World} {B B' n c : Nat} {A : Option Addr} {l : List Ten} (h : OwnT w B A n c l) (hb : B' ≤ B) : OwnT w B' A n c l := by
  refine ⟨h.1, ?_⟩
  rcases h.2 with q | ⟨g, c', cur, hv, hB, hr⟩
  · exact .inl q
  · exact .inr ⟨g, c', cur, hv, Nat.le_trans hb hB, hr⟩
theorem two_cells {w : World} {h : Nat} {t : Ten} (hh : w.heap[h]? = some (.cells #[.int .i64 t.id, .int .i64 t.par, .string t.nm] 46 (0, 0))) (_hlt : h < w.heap.size) : HasT w w.heap.size (some ⟨h, 0, none⟩) [t] := by
  have q : w.ownsRow 0 46 3 (.slice (some ⟨h, 0, none⟩) 1 1) 1 (cellsT [t]) := ⟨rfl, .inr ⟨h, 1, _, rfl, Nat.zero_le _, hh, by omega, by unfold maxLen; omega, rfl, rfl⟩⟩
  exact ownT_read q
end Go.Proofs.YtjpmglnhnfnmnaaDoor
