/- Contracts: errors.As and errors.Is at a Fault that is wrapped once. -/
import Derived.Test.YtlikjchaamimcaaDoorEh
namespace Go.Proofs.YtlikjchaamimcaaDoor
open Go.RowKit Go.Extern.Stop Go.Stop Go.Extern

theorem as_fault_w_at (q : Nat) (e t : Addr) (old : Value) (W w : World) (hg : Han w) (hq : w.cell? ⟨q, 1, none⟩ = some (.iface 40 (.pointer (some e)))) (hB : Below W.heap.size W w) (htb : W.heap.size ≤ t.block) (ht0 : w.cell? t = some old) (hf0 : w.frozen? t = false) :
    Calls Tryd.prog 19 #[.iface 49 (.pointer (some ⟨q, 0, none⟩)), .iface 42 (.pointer (some t))] w fun ev w' => ev = .returned (.bool true) ∧ Below W.heap.size W w' ∧ w'.cell? t = some (.pointer (some e)) := by
  refine (as_fault_w q e t old w hg hq ht0 hf0).mono ?_
  rintro ev w' ⟨rfl, rfl⟩
  refine ⟨rfl, ?_, cell_set (cell_alloc (cell_alloc (cell_alloc (cell_alloc ht0 _) _) _) _)⟩
  have s := hB.size
  refine Below.setCell ?_ htb _
  exact ((((hB.alloc s _).alloc (by rw [alloc_size]; omega) _).alloc (by rw [alloc_size, alloc_size]; omega) _).alloc (by rw [alloc_size, alloc_size, alloc_size]; omega) _)
theorem as_errno_w_at (q : Nat) (e t : Addr) (c : Int) (old : Value) (W w : World) (hg : Han w) (hq : w.cell? ⟨q, 1, none⟩ = some (.iface 40 (.pointer (some e)))) (he : w.cell? e = some (.int .i64 c)) (hB : Below W.heap.size W w) (htb : W.heap.size ≤ t.block) (ht0 : w.cell? t = some old) (hf0 : w.frozen? t = false) :
    Calls Tryd.prog 19 #[.iface 49 (.pointer (some ⟨q, 0, none⟩)), .iface 66 (.pointer (some t))] w fun ev w' => ev = .returned (.bool true) ∧ Below W.heap.size W w' ∧ w'.cell? t = some (.int .i64 c) := by
  refine (as_errno_w q e t c old w hg hq he ht0 hf0).mono ?_
  rintro ev w' ⟨rfl, rfl⟩
  refine ⟨rfl, ?_, cell_set (cell_alloc (cell_alloc (cell_alloc (cell_alloc ht0 _) _) _) _)⟩
  have s := hB.size
  refine Below.setCell ?_ htb _
  exact ((((hB.alloc s _).alloc (by rw [alloc_size]; omega) _).alloc (by rw [alloc_size, alloc_size]; omega) _).alloc (by rw [alloc_size, alloc_size, alloc_size]; omega) _)


set_option maxRecDepth 100000 in
set_option maxHeartbeats 4000000 in
theorem code_w (q : Nat) (e : Addr) (c : Int) (w : World) (hg : Han w) (hq : w.cell? ⟨q, 1, none⟩ = some (.iface 40 (.pointer (some e)))) (he : w.cell? e = some (.int .i64 c)) :
    Calls Tryd.prog 21 #[.iface 49 (.pointer (some ⟨q, 0, none⟩))] w fun ev w' => ev = .returned (.int .i64 c) ∧ Below w.heap.size w w' := by
  have HG := Lib.hid hg
  have HQ := Lib.hid hq
  have HE := Lib.hid he
  clear hg he hq
  go_enter Tryd.func21, Tryd.ntmps21
  go_wp2_with (go_at_call 19; refine (as_errno_w_at q e ⟨w.heap.size, 0, none⟩ c (.int .i64 0) w _ (HG.out.alloc _) (cell_alloc HQ.out _) (cell_alloc HE.out _) ((Below.refl _ _).alloc (Nat.le_refl _) _) (Nat.le_refl _) (by simp) (by simp)).mono ?_; rintro ev w' ⟨rfl, hb, hc⟩; have HB := Lib.hid hb; clear hb)
  go_ret
  exact ⟨rfl, HB.out⟩

set_option maxRecDepth 100000 in
set_option maxHeartbeats 4000000 in
theorem num_w (q : Nat) (e : Addr) (c : Int) (w : World) (hg : Han w) (hq : w.cell? ⟨q, 1, none⟩ = some (.iface 40 (.pointer (some e)))) (he : w.cell? e = some (.int .i64 c)) (h0 : c ≠ 0) :
    Calls Tryd.prog 10 #[.iface 49 (.pointer (some ⟨q, 0, none⟩))] w fun ev w' => ev = .returned (.int .i64 c) ∧ Below w.heap.size w w' := by
  have HG := Lib.hid hg
  have HQ := Lib.hid hq
  have HE := Lib.hid he
  have b0 : (c == 0) = false := by rw [beq_eq_false_iff_ne]; exact h0
  have b1 : (c != c) = false := by simp
  clear hg he hq h0
  have Q1 : Hid (Han (w.alloc (.cells #[.pointer none] 40)).drew) := HG.out.alloc _
  have Q5 : Hid ((w.alloc (.cells #[.pointer none] 40)).drew.cell? ⟨q, 1, none⟩ = some (.iface 40 (.pointer (some e)))) := cell_alloc HQ.out _
  have Q2 : Hid (Below w.heap.size w (w.alloc (.cells #[.pointer none] 40)).drew) := ((Below.refl _ _).alloc (Nat.le_refl _) _).drew
  have Q3 : Hid ((w.alloc (.cells #[.pointer none] 40)).drew.cell? ⟨w.heap.size, 0, none⟩ = some (.pointer none)) := by show (w.alloc (.cells #[.pointer none] 40)).cell? ⟨w.heap.size, 0, none⟩ = some (.pointer none); simp
  have Q4 : Hid ((w.alloc (.cells #[.pointer none] 40)).drew.frozen? ⟨w.heap.size, 0, none⟩ = false) := by show (w.alloc (.cells #[.pointer none] 40)).frozen? ⟨w.heap.size, 0, none⟩ = false; simp
  go_enter Tryd.func10, Tryd.ntmps10
  go_wp2
  go_region_with (first
    | (go_at_call 19; refine (as_fault_w_at q e ⟨w.heap.size, 0, none⟩ (.pointer none) w _ ?_ ?_ ?_ (Nat.le_refl _) ?_ ?_).mono ?_; (exact Q1.out); (exact Q5.out); (exact Q2.out); (exact Q3.out); (exact Q4.out); rintro ev w2 ⟨rfl, hb, hc⟩; have he2 := cell_below HE.out hb; have hq2 := cell_below HQ.out hb; have HB := Lib.hid hb; have HG2 := Lib.hid (HG.out.below hb); clear hb)
    | (go_at_call 20; refine (is_code_w q e c _ ?_ ?_).mono ?_; (exact hq2); (exact he2); rintro ev w' ⟨rfl, rfl⟩)
    | (go_at_call 21; refine (code_w q e c _ ?_ ?_ ?_).mono ?_; (exact HG2.out); (exact hq2); (exact he2); rintro ev w3 ⟨rfl, hb3⟩; have he3 := cell_below he2 hb3; have hc3 := cell_below hc hb3; have hq3 := cell_below hq2 hb3; have HB3 := Lib.hid hb3; clear hb3))
  all_goals
    go_wp2
    go_ret
    exact ⟨rfl, HB.out.trans (HB3.out.mono HB.out.size)⟩
end Go.Proofs.YtlikjchaamimcaaDoor
