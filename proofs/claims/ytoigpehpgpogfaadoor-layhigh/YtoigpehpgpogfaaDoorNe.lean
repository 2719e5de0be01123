/- Contracts: the program's errors: made, wrapped; the set that is asked for. -/
import Derived.Test.YtoigpehpgpogfaaDoorNd
import Derived.Test.YtoigpehpgpogfaaDoorMb
import Derived.Deep.RegionWith
namespace Go.Proofs.YtoigpehpgpogfaaDoor
open Go.RowKit Slices Go.Proofs.YtoigpehpgpogfaaDoor.Bit

/-- an error whose number is c, not wrapped; of 0 none -/
def IsF (c : Int) (v : Value) (w : World) : Prop := (c = 0 ∧ v = .nilIface) ∨ (c ≠ 0 ∧ ∃ p : Addr, v = .iface 75 (.pointer (some p)) ∧ w.cell? p = some (.int .i64 c))
theorem IsF.next {c : Int} {v : Value} {w w' : World} (h : IsF c v w) (hb : Below w.heap.size w w') : IsF c v w' := by
  rcases h with h | ⟨h0, p, hv, hc⟩
  · exact .inl h
  · exact .inr ⟨h0, p, hv, cell_below hc hb⟩
theorem isF_nil (w : World) : IsF 0 .nilIface w := .inl ⟨rfl, rfl⟩
theorem isF_new {c : Int} {w : World} {x : Value} (h : c ≠ 0) : IsF c (.iface 75 (.pointer (some ⟨w.heap.size, 0, none⟩))) (w.alloc (.cells #[.int .i64 c, x] 80)) :=
  .inr ⟨h, _, rfl, by simp⟩

theorem unless_yes (c : Int) (x : Value) (w : World) :
    Calls Tryd.prog 75 #[.bool true, .int .i64 c, x] w fun e w' => e = .returned .nilIface ∧ w = w' := by
  go_enter Tryd.func75, Tryd.ntmps75
  go_wp2
  go_ret
  exact ⟨rfl, rfl⟩
theorem unless_no (c : Int) (x : ByteArray) (w : World) :
    Calls Tryd.prog 75 #[.bool false, .int .i64 c, .string x] w fun e w' => e = .returned (.iface 75 (.pointer (some ⟨w.heap.size, 0, none⟩))) ∧ w' = w.alloc (.cells #[.int .i64 c, .string x] 80) := by
  go_enter Tryd.func75, Tryd.ntmps75
  go_wp2
  go_ret
  exact ⟨rfl, rfl⟩
theorem unless_any (b : Bool) (c : Int) (x : ByteArray) (w : World) (h : c ≠ 0) :
    Calls Tryd.prog 75 #[.bool b, .int .i64 c, .string x] w fun e w' => ∃ v, e = .returned v ∧ IsF (if b then 0 else c) v w' ∧ Below w.heap.size w w' := by
  cases b with
  | true => exact (unless_yes c _ w).mono fun e w' h => ⟨_, h.1, by rw [← h.2]; exact isF_nil w, by rw [← h.2]; exact Below.refl _ _⟩
  | false => exact (unless_no c x w).mono fun e w' ⟨q1, q2⟩ => by subst q2; exact ⟨_, q1, isF_new h, (Below.refl _ _).alloc (Nat.le_refl _) _⟩
theorem fsize_any (x : ByteArray) (A : Option Addr) (n c : Nat) (k : Int) (w : World) (_hn : n ≤ 4611686018427387904) :
    Calls Tryd.prog 65 #[.string x, .slice A n c, .int .i64 k] w fun e w' => ∃ v, e = .returned v ∧ IsF (if (n : Int) == k then 0 else 3) v w' ∧ Below w.heap.size w w' := by
  obtain ⟨b, hb⟩ : ∃ b, ((n : Int) == k) = b := ⟨_, rfl⟩
  rw [hb]
  cases b with
  | true =>
    go_enter Tryd.func65, Tryd.ntmps65
    go_wp2_with (go_at_call 75; refine (unless_any true 3 x _ (by decide)).mono ?_; rintro e w' ⟨v, rfl, hv, hbb⟩)
    go_ret
    exact ⟨_, rfl, hv, hbb⟩
  | false =>
    go_enter Tryd.func65, Tryd.ntmps65
    go_wp2_with (go_at_call 75; refine (unless_any false 3 x _ (by decide)).mono ?_; rintro e w' ⟨v, rfl, hv, hbb⟩)
    go_ret
    exact ⟨_, rfl, hv, hbb⟩
theorem wrap_nil (x : ByteArray) (w : World) :
    Calls Tryd.prog 51 #[.string x, .nilIface] w fun e w' => e = .returned .nilIface ∧ w = w' := by
  go_enter Tryd.func51, Tryd.ntmps51
  go_wp2
  go_ret
  exact ⟨rfl, rfl⟩
theorem wrap_one (x : ByteArray) (p : Addr) (w : World) :
    Calls Tryd.prog 51 #[.string x, .iface 75 (.pointer (some p))] w fun e w' => e = .returned (.iface 89 (.pointer (some ⟨w.heap.size, 0, none⟩))) ∧ w' = w.alloc (.cells #[.string x, .iface 75 (.pointer (some p))] 91) := by
  go_enter Tryd.func51, Tryd.ntmps51
  go_wp2
  go_ret
  exact ⟨rfl, rfl⟩
theorem wrap_any (x : ByteArray) (c : Int) (v : Value) (w : World) (h : IsF c v w) :
    Calls Tryd.prog 51 #[.string x, v] w fun e w' => ∃ v', e = .returned v' ∧ IsErr c v' w' ∧ Below w.heap.size w w' := by
  rcases h with ⟨rfl, rfl⟩ | ⟨h0, p, rfl, hc⟩
  · exact (wrap_nil x w).mono fun e w' q => ⟨_, q.1, .inl ⟨rfl, rfl⟩, by rw [← q.2]; exact Below.refl _ _⟩
  · refine (wrap_one x p w).mono fun e w' ⟨q1, q2⟩ => ?_
    subst q2
    exact ⟨_, q1, .inr ⟨h0, _, p, rfl, by simp, cell_alloc hc _⟩, (Below.refl _ _).alloc (Nat.le_refl _) _⟩

theorem set_none {s : Int} (hs : setB s = false) : setV s = #[.int .i64 0, .int .i64 0, .int .i64 0, .int .i64 0, .int .i64 0, .int .i64 0, .int .i64 0, .int .i64 0, .int .i64 0] := by
  rcases set_cases s with rfl | rfl | rfl | ⟨h1, h2, h3⟩
  · exact absurd hs (by decide)
  · exact absurd hs (by decide)
  · exact absurd hs (by decide)
  · unfold setV setN; rw [if_neg h1, if_neg h2, if_neg h3]; rfl
set_option maxRecDepth 100000 in
set_option maxHeartbeats 4000000 in
theorem haveSet_yes (s : Int) (w : World) (hs : setB s = true) : Calls Tryd.prog 63 #[.int .i64 s] w fun e w' => e = .returned (.tuple #[.agg (setV s), .nilIface]) ∧ Below w.heap.size w w' := by
  obtain ⟨x1, x2, x3, x4, x6, x7, x8, hx⟩ := set_kw hs
  generalize ((kOf s : Nat) : Int) = x0 at hx
  generalize ((wOf s : Nat) : Int) = x5 at hx
  have HX := Lib.hid hx
  have HS := Lib.hid hs
  rw [hx]
  clear hx hs
  obtain ⟨g, hg⟩ : ∃ g, g = w.heap.size := ⟨_, rfl⟩
  have HGE : Hid (w.heap.size ≤ g) := by show w.heap.size ≤ g; omega
  go_enter Tryd.func63, Tryd.ntmps63
  go_wp2_with (go_at_call 13; refine (pSet_any s _).mono ?_; rw [HX.out, HS.out]; rintro e w1 ⟨rfl, hb⟩; have HB := Lib.hid hb; clear hb)
  have hz : w1.heap[w.heap.size]? = some (.cells (Array.replicate 9 (.int .i64 0)) 30 (0, 0)) := (HB.out.block _ (by simp)).trans (heap_alloc_new w _)
  have hlt : w.heap.size < w1.heap.size := by have := HB.out.size; simp at this; omega
  have HBB : Hid (Below w.heap.size w w1) := (((Below.refl _ w).alloc (Nat.le_refl _) _).trans (HB.out.mono (by simp)))
  rw [← hg] at hz hlt ⊢
  have cs : ∀ k, k < 9 → w1.cell? ⟨g, k, none⟩ = some (.int .i64 0) := fun k hk => by rw [cell_of_row _ _ k _ _ _ hz, Array.getElem?_replicate, if_pos hk]
  have hne : ¬ w1.heap.size = g := by omega
  have f0 := frozen_of_row _ _ 0 _ _ hz
  have c0 := cs 0 (by omega)
  have f1 := frozen_of_row _ _ 1 _ _ hz
  have c1 := cs 1 (by omega)
  have f2 := frozen_of_row _ _ 2 _ _ hz
  have c2 := cs 2 (by omega)
  have f3 := frozen_of_row _ _ 3 _ _ hz
  have c3 := cs 3 (by omega)
  have f4 := frozen_of_row _ _ 4 _ _ hz
  have c4 := cs 4 (by omega)
  have f5 := frozen_of_row _ _ 5 _ _ hz
  have c5 := cs 5 (by omega)
  have f6 := frozen_of_row _ _ 6 _ _ hz
  have c6 := cs 6 (by omega)
  have f7 := frozen_of_row _ _ 7 _ _ hz
  have c7 := cs 7 (by omega)
  have f8 := frozen_of_row _ _ 8 _ _ hz
  have c8 := cs 8 (by omega)
  clear hz cs HB hg
  go_region_with (go_at_call 75; refine (unless_yes 2 _ _).mono ?_; rintro e w' ⟨rfl, rfl⟩)
  all_goals
    go_wp2
    refine bodyPost_ret (v := .tuple #[.agg #[.int .i64 x0, .int .i64 x1, .int .i64 x2, .int .i64 x3, .int .i64 x4, .int .i64 x5, .int .i64 x6, .int .i64 x7, .int .i64 x8], .nilIface]) ?_ rfl ⟨rfl, ?_⟩
    · rw [results_cell_tmp rfl]
      go_simp
    · refine Below.drew (Below.alloc ?_ (by have := HBB.out.size; simp; omega) _)
      exact ((((((((HBB.out.setCell HGE.out _).setCell HGE.out _).setCell HGE.out _).setCell HGE.out _).setCell HGE.out _).setCell HGE.out _).setCell HGE.out _).setCell HGE.out _).setCell HGE.out _
set_option maxRecDepth 100000 in
set_option maxHeartbeats 4000000 in
theorem haveSet_no (s : Int) (w : World) (hs : setB s = false) : Calls Tryd.prog 63 #[.int .i64 s] w fun e w' => ∃ v, e = .returned (.tuple #[.agg (setV s), v]) ∧ IsF 2 v w' ∧ Below w.heap.size w w' := by
  have hx := set_none hs
  have HX := Lib.hid hx
  have HS := Lib.hid hs
  rw [hx]
  clear hx hs
  obtain ⟨g, hg⟩ : ∃ g, g = w.heap.size := ⟨_, rfl⟩
  have HGE : Hid (w.heap.size ≤ g) := by show w.heap.size ≤ g; omega
  go_enter Tryd.func63, Tryd.ntmps63
  go_wp2_with (go_at_call 13; refine (pSet_any s _).mono ?_; rw [HX.out, HS.out]; rintro e w1 ⟨rfl, hb⟩; have HB := Lib.hid hb; clear hb)
  have hz : w1.heap[w.heap.size]? = some (.cells (Array.replicate 9 (.int .i64 0)) 30 (0, 0)) := (HB.out.block _ (by simp)).trans (heap_alloc_new w _)
  have hlt : w.heap.size < w1.heap.size := by have := HB.out.size; simp at this; omega
  have HBB : Hid (Below w.heap.size w w1) := (((Below.refl _ w).alloc (Nat.le_refl _) _).trans (HB.out.mono (by simp)))
  rw [← hg] at hz hlt ⊢
  have cs : ∀ k, k < 9 → w1.cell? ⟨g, k, none⟩ = some (.int .i64 0) := fun k hk => by rw [cell_of_row _ _ k _ _ _ hz, Array.getElem?_replicate, if_pos hk]
  have hne : ¬ w1.heap.size = g := by omega
  have f0 := frozen_of_row _ _ 0 _ _ hz
  have c0 := cs 0 (by omega)
  have f1 := frozen_of_row _ _ 1 _ _ hz
  have c1 := cs 1 (by omega)
  have f2 := frozen_of_row _ _ 2 _ _ hz
  have c2 := cs 2 (by omega)
  have f3 := frozen_of_row _ _ 3 _ _ hz
  have c3 := cs 3 (by omega)
  have f4 := frozen_of_row _ _ 4 _ _ hz
  have c4 := cs 4 (by omega)
  have f5 := frozen_of_row _ _ 5 _ _ hz
  have c5 := cs 5 (by omega)
  have f6 := frozen_of_row _ _ 6 _ _ hz
  have c6 := cs 6 (by omega)
  have f7 := frozen_of_row _ _ 7 _ _ hz
  have c7 := cs 7 (by omega)
  have f8 := frozen_of_row _ _ 8 _ _ hz
  have c8 := cs 8 (by omega)
  clear hz cs HB hg
  go_region_with (go_at_call 75; refine (unless_no 2 _ _).mono ?_; rintro e w' ⟨rfl, rfl⟩)
  all_goals
    go_wp2
    refine bodyPost_ret (v := .tuple #[.agg #[.int .i64 0, .int .i64 0, .int .i64 0, .int .i64 0, .int .i64 0, .int .i64 0, .int .i64 0, .int .i64 0, .int .i64 0], .iface 75 (.pointer (some ⟨w1.heap.size + 1, 0, none⟩))]) ?_ rfl ⟨_, rfl, ?_, ?_⟩
    · rw [results_cell_tmp rfl]
      go_simp
    · exact .inr ⟨by decide, _, rfl, by rw [World.cell?_drew, World.cell?_alloc_at _ _ _ _ (by simp)]; rfl⟩
    · refine Below.drew (Below.alloc (Below.alloc ?_ (by have := HBB.out.size; simp; omega) _) (by have := HBB.out.size; simp; omega) _)
      exact ((((((((HBB.out.setCell HGE.out _).setCell HGE.out _).setCell HGE.out _).setCell HGE.out _).setCell HGE.out _).setCell HGE.out _).setCell HGE.out _).setCell HGE.out _).setCell HGE.out _
end Go.Proofs.YtoigpehpgpogfaaDoor
