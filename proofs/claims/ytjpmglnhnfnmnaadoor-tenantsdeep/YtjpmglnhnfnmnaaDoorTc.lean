/- Contracts: lists of whole numbers that are alike, or written over. -/
import Derived.Test.YtjpmglnhnfnmnaaDoorTb
namespace Go.Proofs.YtjpmglnhnfnmnaaDoor
open Go.RowKit Slices

theorem Tryd.info3 : (Tryd.prog.info? 3).map (fun i => (i.zero, i.size, i.bytes)) = some (some (.int .i64 0), 1, 8) := by kernel_rfl
set_option maxHeartbeats 400000 in
theorem same_true (A A' : Option Addr) (c c' B : Nat) (l : List Int) (w : World) (hl : l.length ≤ 4611686018427387904) (h : Has .i64 w B A l) (h' : Has .i64 w B A' l) :
    Calls Tryd.prog 13 #[.slice A l.length c, .slice A' l.length c'] w fun e w' => e = .returned (.bool true) ∧ ∃ n, w' = w.drewN n := by
  go_enter Tryd.func13, Tryd.ntmps13
  go_wp2
  go_loopw [5] (fun i wr => ∃ k n : Nat, k ≤ l.length ∧ i = .int .i64 k ∧ wr = w.drewN n) (fun i _ => l.length - (intOf i).toNat)
  case atStart => exact ⟨0, 0, Nat.zero_le _, rfl, rfl⟩
  case round =>
    obtain ⟨k, n, hk, rfl, rfl⟩ := hrel
    by_cases hlt : k < l.length
    · obtain ⟨a, rfl, _, ha⟩ := h k hlt
      obtain ⟨a', rfl, _, ha'⟩ := h' k hlt
      go_wp2
      go_quiet (fail)
      go_wp2
      go_roundw
      case rel => exact ⟨k + 1, n + nq, by omega, by go_num, rfl⟩
      case measure => simp [intOf]; omega
    · go_wp2
      go_ret
      exact ⟨rfl, n, rfl⟩
/-- lists that are one -/
theorem same_eq (A A' : Option Addr) (c c' n n' : Nat) (l l' : List Int) (w : World) (he : l = l') (hn : n = l.length) (hn' : n' = l.length) (hl : l.length ≤ 4000) (h : Has .i64 w w.heap.size A l) (h' : Has .i64 w w.heap.size A' l') :
    Calls Tryd.prog 13 #[.slice A n c, .slice A' n' c'] w fun e w' => e = .returned (.bool true) ∧ Below w.heap.size w w' := by
  subst he
  subst hn
  subst hn'
  exact (same_true A A' c c' _ l w (by omega) h h').mono fun e w' ⟨h1, n, h2⟩ => ⟨h1, by rw [h2]; exact below_drewN (Below.refl _ _) n⟩

def OverRel (w : World) (B g n c : Nat) (wr : World) : Prop := ∃ l : List Int, wr.ownsRow B 3 1 (.slice (some ⟨g, 0, none⟩) n c) n (ints .i64 l) ∧ w.grownBy wr (some g)

set_option maxRecDepth 100000 in
set_option maxHeartbeats 400000 in
theorem over_own (g n c B : Nat) (l : List Int) (w : World) (h : w.ownsRow B 3 1 (.slice (some ⟨g, 0, none⟩) n c) n (ints .i64 l)) (hB : B ≤ w.heap.size) (hn : n ≤ 4000) :
    Calls Tryd.prog 20 #[.slice (some ⟨g, 0, none⟩) n c] w fun e w' => e = .returned (.tuple #[]) ∧ w.grownBy w' (some g) := by
  obtain ⟨i0, hi0, hz0, hz1, hz2⟩ := info_parts Tryd.info3
  have H := Lib.hid h
  clear h
  go_enter Tryd.func20, Tryd.ntmps20
  go_wp2
  go_loopw [2] (fun i wr => ∃ k : Nat, k ≤ n ∧ i = .int .i64 k ∧ OverRel w B g n c wr) (fun i _ => n - (intOf i).toNat)
  case atStart => exact ⟨0, by omega, rfl, l, H.out, World.grownBy.refl _ _⟩
  case round =>
    obtain ⟨k, hk, rfl, hr⟩ := hrel
    have HR := Lib.hid hr
    clear hr
    obtain ⟨l', ho', hg'⟩ := HR.out
    by_cases hlt : k < n
    · have hc := own_cell ho' hlt
      have hf := ho'.frozenAt k
      have HO := Lib.hid ho'
      have HG := Lib.hid hg'
      clear ho' hg'
      go_wp2
      go_roundw
      case rel => exact ⟨k + 1, by omega, by go_num, _, own_set HO.out k (-999), grown_by_trans HG.out (HO.out.stored k _).2⟩
      case measure => simp [intOf]; omega
    · have HO := Lib.hid ho'
      have HG := Lib.hid hg'
      clear ho' hg'
      have hsz : B ≤ wr.heap.size := by have := HG.out.size; omega
      go_wp2_with (at_builtin; refine wpList_append_own _ rfl _ _ 31 rfl B 3 i0 (.int .i64 0) 1 8 Tryd.underlying31 hi0 hz0 hz1 hz2 rfl (by decide) _ n _ rfl (HO.out.alloc _) ⟨wr.heap.size, 0, none⟩ 1 1 [.int .i64 (-999)] rfl rfl (World.news_of_block (cs := #[.int .i64 (-999)]) (t := 3) (fr := (0, 0)) (heap_alloc_new wr _)) (by simp [Value.oneCell']) (by unfold maxLen; omega) (by omega) (by simp; omega) ?_; intro v1 w1 hown hgrow hnil; clear hnil; have HG2 := Lib.hid hgrow; clear hown hgrow)
      go_end0
      exact ⟨rfl, grown_by_trans (grown_by_trans HG.out (World.grownBy_alloc _ _ _)) HG2.out⟩

set_option maxRecDepth 100000 in
set_option maxHeartbeats 400000 in
theorem over_nil (w : World) : Calls Tryd.prog 20 #[.slice none 0 0] w fun e w' => e = .returned (.tuple #[]) ∧ w.grownBy w' none := by
  obtain ⟨i0, hi0, hz0, hz1, hz2⟩ := info_parts Tryd.info3
  go_enter Tryd.func20, Tryd.ntmps20
  go_wp2
  refine wp_loop_rounds 1 ?_
  rw [rounds_succ]
  go_wp2_with (at_builtin; refine wpList_append_own _ rfl _ _ 31 rfl w.heap.size 3 i0 (.int .i64 0) 1 8 Tryd.underlying31 hi0 hz0 hz1 hz2 rfl (by decide) _ 0 _ rfl (World.ownsRow_nil _ _ _ _) ⟨w.heap.size, 0, none⟩ 1 1 [.int .i64 (-999)] rfl rfl (World.news_of_block (cs := #[.int .i64 (-999)]) (t := 3) (fr := (0, 0)) (heap_alloc_new w _)) (by simp [Value.oneCell']) (by unfold maxLen; omega) (by omega) (by simp) ?_; intro v1 w1 hown hgrow hnil; clear hnil; have HG2 := Lib.hid hgrow; clear hown hgrow)
  go_end0
  exact ⟨rfl, grown_by_trans (World.grownBy_alloc _ _ _) HG2.out⟩

theorem over_any (B c : Nat) (A : Option Addr) (l : List Int) (w : World) (h : Mine .i64 3 B A c l w) (hl : l.length ≤ 4000) :
    Calls Tryd.prog 20 #[.slice A l.length c] w fun e w' => e = .returned (.tuple #[]) ∧ w.grownBy w' (Value.slice A l.length c).ownBlock := by
  have ho := h.1
  rcases ho.2 with ⟨hv, h0⟩ | ⟨g, c', cur, hv, hB, hgg, hr⟩
  · injection hv with h1 h2 h3
    subst h1
    subst h3
    rw [h0]
    exact over_nil w
  · injection hv with h1 h2 h3
    subst h1
    subst h3
    exact over_own g l.length c B l w ho h.2 hl
end Go.Proofs.YtjpmglnhnfnmnaaDoor
