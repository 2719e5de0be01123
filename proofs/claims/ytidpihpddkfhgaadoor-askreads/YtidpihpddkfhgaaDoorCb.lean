/- Contracts: lists that are alike, what is lent, kept and written over. -/
import Derived.Test.YtidpihpddkfhgaaDoorWords
import Derived.Test.YtidpihpddkfhgaaDoorProg
import Derived.Test.YtidpihpddkfhgaaDoorNums
namespace Go.Proofs.YtidpihpddkfhgaaDoor
open Go.RowKit Slices Go.Proofs.YtidpihpddkfhgaaDoor.Bit

theorem Tryd.info3 : (Tryd.prog.info? 3).map (fun i => (i.zero, i.size, i.bytes)) = some (some (.int .i64 0), 1, 8) := by kernel_rfl
theorem Tryd.info5 : (Tryd.prog.info? 5).map (fun i => (i.zero, i.size, i.bytes)) = some (some (.int .u8 0), 1, 1) := by kernel_rfl

set_option maxHeartbeats 400000 in
theorem sameB_true (A A' : Option Addr) (c c' B : Nat) (l : List Int) (w : World) (hl : l.length ≤ 4611686018427387904) (h : Has .u8 w B A l) (h' : Has .u8 w B A' l) :
    Calls Tryd.prog 10 #[.slice A l.length c, .slice A' l.length c'] w fun e w' => e = .returned (.bool true) ∧ ∃ n, w' = w.drewN n := by
  go_enter Tryd.func10, Tryd.ntmps10
  go_wp2
  go_loopw [5] (fun i wr => ∃ k n : Nat, k ≤ l.length ∧ i = .int .i64 k ∧ wr = w.drewN n) (fun i _ => l.length - (intOf i).toNat)
  case atStart => exact ⟨0, 0, Nat.zero_le _, rfl, rfl⟩
  case round =>
    obtain ⟨k, n, hk, rfl, rfl⟩ := hrel
    by_cases hlt : k < l.length
    · obtain ⟨a, rfl, _, ha⟩ := h k hlt
      obtain ⟨a', rfl, _, ha'⟩ := h' k hlt
      go_wp2
      go_quiet (fail)
      go_wp2
      go_roundw
      case rel => exact ⟨k + 1, n + nq, by omega, by go_num, rfl⟩
      case measure => simp [intOf]; omega
    · go_wp2
      go_ret
      exact ⟨rfl, n, rfl⟩
/-- lists that are one -/
theorem sameB_eq (A A' : Option Addr) (c c' n n' : Nat) (l l' : List Int) (w : World) (he : l = l') (hn : n = l.length) (hn' : n' = l.length) (hl : l.length ≤ 40000) (h : Has .u8 w w.heap.size A l) (h' : Has .u8 w w.heap.size A' l') :
    Calls Tryd.prog 10 #[.slice A n c, .slice A' n' c'] w fun e w' => e = .returned (.bool true) ∧ Below w.heap.size w w' := by
  subst he
  subst hn
  subst hn'
  exact (sameB_true A A' c c' _ l w (by omega) h h').mono fun e w' ⟨h1, n, h2⟩ => ⟨h1, by rw [h2]; exact below_drewN (Below.refl _ _) n⟩

def marksB : List Int := [119, 119, 119]
/-- block g holds l with three marks behind -/
def LentB (w : World) (B g : Nat) (l : List Int) : Prop :=
  w.ownsRow B 5 1 (.slice (some ⟨g, 0, none⟩) (l.length + 3) (l.length + 3)) (l.length + 3) (ints .u8 (l ++ marksB))

theorem marksB_take (l : List Int) (k : Nat) (h : k < 3) : ints .u8 (l ++ marksB.take k) ++ [.int .u8 (119)] = ints .u8 (l ++ marksB.take (k + 1)) := by
  have : k = 0 ∨ k = 1 ∨ k = 2 := by omega
  rcases this with rfl | rfl | rfl <;> simp [ints, marksB]

def LendBPost (w : World) (l : List Int) (e : Ending) (w' : World) : Prop :=
  ∃ g, e = .returned (.slice (some ⟨g, 0, none⟩) l.length (l.length + 3)) ∧ LentB w' w.heap.size g l ∧ Below w.heap.size w w'

def LendBRel (w : World) (l : List Int) (k : Nat) (wr : World) : Prop :=
  wr.ownsRow w.heap.size 5 1 (.slice (some ⟨w.heap.size, 0, none⟩) (l.length + k) (l.length + 3)) (l.length + k) (ints .u8 (l ++ marksB.take k)) ∧ Below w.heap.size w wr

set_option maxRecDepth 100000 in
set_option maxHeartbeats 400000 in
theorem lendB_any (A : Option Addr) (c : Nat) (l : List Int) (w : World) (h : Has .u8 w w.heap.size A l) (hA : A = none → l.length = 0 ∧ c = 0) (hn : l.length ≤ 40000) :
    Calls Tryd.prog 18 #[.slice A l.length c] w (LendBPost w l) := by
  obtain ⟨i0, hi0, hz0, hz1, hz2⟩ := info_parts Tryd.info5
  have HC := Lib.hid h.cells
  have HA := Lib.hid hA
  clear h hA
  go_enter Tryd.func18, Tryd.ntmps18
  go_wp2_with (first
    | (at_make; refine wpList_make_own _ rfl _ _ 22 rfl w.heap.size 5 i0 (.int .u8 0) 1 Tryd.underlying22 hi0 hz0 hz1 _ _ _ (l.length + 3) rfl rfl (by omega) (by rw [hz2]; omega) (by unfold maxLen; omega) (Nat.le_refl _) ?_; intro w1 hown hgrow; have HO := Lib.hid hown; clear hown; have HG := Lib.hid hgrow; clear hgrow)
    | (at_builtin; refine wpList_append_fits_any _ rfl _ _ 22 rfl w.heap.size 5 i0 1 Tryd.underlying22 hi0 hz1 w.heap.size 0 (l.length + 3) [] rfl HO.out A l.length c (ints .u8 l) rfl (by rw [ints_length]; omega) HA.out (by intro ad e j u hu; exact HG.out.cell (HC.out ad e j u hu) (by simp)) (ints_one .u8 l) (by omega) ?_; intro w2 hown2 hgrow2; rw [List.nil_append, Nat.zero_add] at hown2; have HO2 := Lib.hid hown2; clear hown2; have HG2 := Lib.hid hgrow2; clear hgrow2))
  have hst : LendBRel w l 0 w2 := ⟨by simpa [marksB] using HO2.out, ((Below.refl _ _).grown HG.out (Nat.le_refl _) (by simp)).grown HG2.out (by have := HG.out.size; omega) (by intro k hk; injection hk with hk; omega)⟩
  have HST := Lib.hid hst
  clear hst HO HG HO2 HG2
  generalize h3 : l.length + 3 - l.length = three
  have t3 : 3 ≤ three := by omega
  have t3' : three ≤ 3 := by omega
  clear h3
  go_loopw [5] (fun i wr => ∃ k : Nat, k ≤ 3 ∧ i = .int .i64 k ∧ LendBRel w l k wr) (fun i _ => 3 - (intOf i).toNat)
  case atStart => exact ⟨0, by omega, rfl, HST.out⟩
  case round =>
    obtain ⟨k, hk, rfl, hr⟩ := hrel
    have HR := Lib.hid hr
    clear hr HST
    by_cases hlt : k < 3
    · obtain ⟨v0, hv0⟩ := own_spare HR.out.1 (k := l.length + k) (by omega)
      have hf := HR.out.1.frozenAt (l.length + k)
      go_wp2
      go_roundw
      case rel => exact ⟨k + 1, by omega, by go_num, by have := own_push HR.out.1 (by omega) (.int .u8 (119)); rwa [marksB_take l k hlt] at this, HR.out.2.setCell (Nat.le_refl _) _⟩
      case measure => simp [intOf]; omega
    · go_wp2
      go_ret
      have e : k = 3 := by omega
      subst e
      exact ⟨_, rfl, HR.out.1, HR.out.2⟩

theorem lentB_cell {w : World} {B g : Nat} {l : List Int} (h : LentB w B g l) {k : Nat} (hk : k < 3) : w.cell? ⟨g, l.length + k, none⟩ = some (.int .u8 (119)) := by
  have := own_cell h (k := l.length + k) (by omega)
  rw [this, List.getD_eq_getElem?_getD, List.getElem?_append_right (by omega), Nat.add_sub_cancel_left]
  have : k = 0 ∨ k = 1 ∨ k = 2 := by omega
  rcases this with rfl | rfl | rfl <;> rfl
theorem lentB_has {w : World} {B g : Nat} {l : List Int} (h : LentB w B g l) : Has .u8 w w.heap.size (some ⟨g, 0, none⟩) l := own_has (own_less h rfl)
theorem lentB_block {w : World} {B g : Nat} {l : List Int} (h : LentB w B g l) : B ≤ g ∧ g < w.heap.size := own_block h

set_option maxRecDepth 100000 in
set_option maxHeartbeats 400000 in
theorem keptB_any (g B : Nat) (A : Option Addr) (c : Nat) (l : List Int) (w : World) (h : LentB w B g l) (h' : Has .u8 w w.heap.size A l) (hn : l.length ≤ 40000) :
    Calls Tryd.prog 22 #[.slice (some ⟨g, 0, none⟩) l.length (l.length + 3), .slice A l.length c] w fun e w' => e = .returned (.bool true) ∧ Below w.heap.size w w' := by
  have H := Lib.hid h
  have H' := Lib.hid h'
  clear h h'
  go_enter Tryd.func22, Tryd.ntmps22
  go_wp2
  generalize h3 : l.length + 3 - l.length = three
  have t3 : 3 ≤ three := by omega
  have t3' : three ≤ 3 := by omega
  clear h3
  go_loopw [6] (fun i wr => ∃ k n : Nat, k ≤ 3 ∧ i = .int .i64 k ∧ wr = w.drewN n) (fun i _ => 3 - (intOf i).toNat)
  case atStart => exact ⟨0, 0, by omega, rfl, rfl⟩
  case round =>
    obtain ⟨k, n, hk, rfl, rfl⟩ := hrel
    by_cases hlt : k < 3
    · have hc := lentB_cell H.out hlt
      go_wp2
      go_roundw
      case rel => exact ⟨k + 1, n, by omega, by go_num, rfl⟩
      case measure => simp [intOf]; omega
    · go_wp2_with (go_at_call 10; refine (sameB_true _ _ _ _ w.heap.size _ _ (by omega) ((lentB_has H.out).drewN _) (H'.out.drewN _)).mono ?_; rintro e w' ⟨rfl, n', rfl⟩)
      go_ret
      exact ⟨rfl, below_drewN (Below.refl _ _) _⟩

def OverBRel (w : World) (B g n c : Nat) (wr : World) : Prop := ∃ l : List Int, wr.ownsRow B 5 1 (.slice (some ⟨g, 0, none⟩) n c) n (ints .u8 l) ∧ w.grownBy wr (some g)

set_option maxRecDepth 100000 in
set_option maxHeartbeats 400000 in
theorem overB_own (g n c B : Nat) (l : List Int) (w : World) (h : w.ownsRow B 5 1 (.slice (some ⟨g, 0, none⟩) n c) n (ints .u8 l)) (hB : B ≤ w.heap.size) (hn : n ≤ 40000) :
    Calls Tryd.prog 21 #[.slice (some ⟨g, 0, none⟩) n c] w fun e w' => e = .returned (.tuple #[]) ∧ w.grownBy w' (some g) := by
  obtain ⟨i0, hi0, hz0, hz1, hz2⟩ := info_parts Tryd.info5
  have H := Lib.hid h
  clear h
  go_enter Tryd.func21, Tryd.ntmps21
  go_wp2
  go_loopw [2] (fun i wr => ∃ k : Nat, k ≤ n ∧ i = .int .i64 k ∧ OverBRel w B g n c wr) (fun i _ => n - (intOf i).toNat)
  case atStart => exact ⟨0, by omega, rfl, l, H.out, World.grownBy.refl _ _⟩
  case round =>
    obtain ⟨k, hk, rfl, hr⟩ := hrel
    have HR := Lib.hid hr
    clear hr
    obtain ⟨l', ho', hg'⟩ := HR.out
    by_cases hlt : k < n
    · have hc := own_cell ho' hlt
      have hf := ho'.frozenAt k
      have HO := Lib.hid ho'
      have HG := Lib.hid hg'
      clear ho' hg'
      go_wp2
      go_roundw
      case rel => exact ⟨k + 1, by omega, by go_num, _, own_set HO.out k (238), grown_by_trans HG.out (HO.out.stored k _).2⟩
      case measure => simp [intOf]; omega
    · have HO := Lib.hid ho'
      have HG := Lib.hid hg'
      clear ho' hg'
      have hsz : B ≤ wr.heap.size := by have := HG.out.size; omega
      go_wp2_with (at_builtin; refine wpList_append_own _ rfl _ _ 22 rfl B 5 i0 (.int .u8 0) 1 1 Tryd.underlying22 hi0 hz0 hz1 hz2 rfl (by decide) _ n _ rfl (HO.out.alloc _) ⟨wr.heap.size, 0, none⟩ 1 1 [.int .u8 (238)] rfl rfl (World.news_of_block (cs := #[.int .u8 (238)]) (t := 5) (fr := (0, 0)) (heap_alloc_new wr _)) (by simp [Value.oneCell']) (by unfold maxLen; omega) (by omega) (by simp; omega) ?_; intro v1 w1 hown hgrow hnil; clear hnil; have HG2 := Lib.hid hgrow; clear hown hgrow)
      go_end0
      exact ⟨rfl, grown_by_trans (grown_by_trans HG.out (World.grownBy_alloc _ _ _)) HG2.out⟩

set_option maxRecDepth 100000 in
set_option maxHeartbeats 400000 in
theorem overB_nil (w : World) : Calls Tryd.prog 21 #[.slice none 0 0] w fun e w' => e = .returned (.tuple #[]) ∧ w.grownBy w' none := by
  obtain ⟨i0, hi0, hz0, hz1, hz2⟩ := info_parts Tryd.info5
  go_enter Tryd.func21, Tryd.ntmps21
  go_wp2
  refine wp_loop_rounds 1 ?_
  rw [rounds_succ]
  go_wp2_with (at_builtin; refine wpList_append_own _ rfl _ _ 22 rfl w.heap.size 5 i0 (.int .u8 0) 1 1 Tryd.underlying22 hi0 hz0 hz1 hz2 rfl (by decide) _ 0 _ rfl (World.ownsRow_nil _ _ _ _) ⟨w.heap.size, 0, none⟩ 1 1 [.int .u8 (238)] rfl rfl (World.news_of_block (cs := #[.int .u8 (238)]) (t := 5) (fr := (0, 0)) (heap_alloc_new w _)) (by simp [Value.oneCell']) (by unfold maxLen; omega) (by omega) (by simp) ?_; intro v1 w1 hown hgrow hnil; clear hnil; have HG2 := Lib.hid hgrow; clear hown hgrow)
  go_end0
  exact ⟨rfl, grown_by_trans (World.grownBy_alloc _ _ _) HG2.out⟩

theorem overB_any (B c : Nat) (A : Option Addr) (l : List Int) (w : World) (h : Mine .u8 5 B A c l w) (hl : l.length ≤ 40000) :
    Calls Tryd.prog 21 #[.slice A l.length c] w fun e w' => e = .returned (.tuple #[]) ∧ w.grownBy w' (Value.slice A l.length c).ownBlock := by
  have ho := h.1
  rcases ho.2 with ⟨hv, h0⟩ | ⟨g, c', cur, hv, hB, hgg, hr⟩
  · injection hv with h1 h2 h3
    subst h1
    subst h3
    rw [h0]
    exact overB_nil w
  · injection hv with h1 h2 h3
    subst h1
    subst h3
    exact overB_own g l.length c B l w ho h.2 hl

end Go.Proofs.YtidpihpddkfhgaaDoor
