/- Contracts: polys made of numbers. -/
import Derived.Test.YtneopnlklhcopaaB
import Derived.Test.YtneopnlklhcopaaR
namespace Go.Proofs.Ytneopnlklhcopaa
open Go.RowKit Slices Go.Proofs.Ytneopnlklhcopaa.Ring

theorem low_ok (x : Int) : okN (low x 8380417) := by
  unfold okN low; omega
theorem ok_set {l : List Int} (h : ∀ k, okN (l.getD k 0)) (i : Nat) {x : Int} (hx : okN x) : ∀ k, okN ((l.set i x).getD k 0) := by
  intro k
  rw [List.getD_eq_getElem?_getD, List.getElem?_set]
  split
  · split
    · exact hx
    · exact ⟨by simp, by simp⟩
  · rw [← List.getD_eq_getElem?_getD]; exact h k
theorem ok_zero (N : Nat) : ∀ k, okN ((List.replicate N (0 : Int)).getD k 0) := by
  intro k
  rw [List.getD_eq_getElem?_getD, List.getElem?_replicate]
  split <;> exact ⟨by simp, by simp⟩

def LowRel (w : World) (N g : Nat) (wr : World) : Prop :=
  ∃ l : List Int, wr.ownsRow w.heap.size 3 1 (.slice (some ⟨g, 0, none⟩) N N) N (ints l) ∧ (∀ k, okN (l.getD k 0)) ∧ Below w.heap.size w wr

def GivesPoly (w : World) (e : Ending) (w' : World) : Prop := ∃ l, IsPoly l ∧ Gives w l e w'

theorem give_of {w wr : World} {N g : Nat} (hr : LowRel w N g wr) (hN : N = 256) : GivesPoly w (.returned (.slice (some ⟨g, 0, none⟩) N N)) wr := by
  obtain ⟨l, hown, hok, hbel⟩ := hr
  have hl := own_len hown
  subst hl
  exact ⟨l, ⟨hN, fun k _ => hok k⟩, g, l.length, rfl, hown, hbel⟩

set_option maxRecDepth 100000 in
set_option maxHeartbeats 600000 in
theorem lowp_big (A : Option Addr) (c : Nat) (ns : List Int) (w : World) (h : Has w w.heap.size A ns) (hn : ns.length ≤ 1000) :
    Calls Try.prog 32 #[.slice A ns.length c] w (GivesPoly w) := by
  obtain ⟨i0, hi0, hz0, hz1, hz2⟩ := info_parts Try.info3
  obtain ⟨N, hN⟩ : ∃ N : Nat, N = 256 := ⟨_, rfl⟩
  have n0 : N ≤ 256 := by omega
  have n1 : 256 ≤ N := by omega
  have HN := Lib.hid hN
  clear hN
  have H := Lib.hid h
  clear h
  go_enter Try.func32, Try.ntmps32
  go_wp2_with (at_make; refine wpList_make_full _ rfl _ _ 22 rfl w.heap.size 3 i0 (.int .i64 0) 1 Try.underlying22 hi0 hz0 hz1 _ _ _ _ N rfl rfl (by omega) (by omega) (by rw [hz2]; omega) (by unfold maxLen; omega) (Nat.le_refl _) ?_; intro w1 hown hgrow; rw [made_ints] at hown; have HO := Lib.hid hown; clear hown; have HG := Lib.hid hgrow; clear hgrow)
  go_loopw [4] (fun i wr => ∃ k : Nat, k ≤ 256 ∧ i = .int .i64 k ∧ LowRel w N w.heap.size wr) (fun i _ => 256 - (intOf i).toNat)
  case atStart => exact ⟨0, by omega, rfl, _, HO.out, ok_zero N, (Below.refl _ _).grown HG.out (Nat.le_refl _) (by simp)⟩
  case round =>
    obtain ⟨k, hk, rfl, hr⟩ := hrel
    have HR := Lib.hid hr
    clear hr
    by_cases hlt : k < 256
    · by_cases hl : 0 < ns.length
      · have hm : k % ns.length < ns.length := Nat.mod_lt _ hl
        obtain ⟨a, rfl, hb, ha⟩ := H.out (k % ns.length) hm
        obtain ⟨l, hown, hok, hbel⟩ := HR.out
        have hcell : wr.cell? (a.add (k % ns.length)) = some (.int .i64 (ns.getD (k % ns.length) 0)) := (hbel.cell (by rw [add_block]; exact hb)).trans ha
        have hc : wr.cell? ⟨w.heap.size, k, none⟩ = some (.int .i64 (l.getD k 0)) := own_cell hown (by omega)
        have hf := hown.frozenAt k
        have HO := Lib.hid hown
        have HB := Lib.hid hbel
        clear hown hbel ha
        go_wp2_with (go_at_call 33; refine (low_any _ _ _ (by omega) (by omega)).mono ?_; rintro e w' ⟨rfl, rfl⟩)
        go_roundw
        case rel => exact ⟨k + 1, by omega, by go_num, l.set k _, own_set HO.out k _, ok_set hok k (low_ok _), HB.out.setCell (Nat.le_refl _) _⟩
        case measure => simp [intOf]; omega
      · go_wp2
        go_ret
        exact give_of HR.out HN.out
    · go_wp2
      go_ret
      exact give_of HR.out HN.out
theorem lowp_any (A : Option Addr) (c : Nat) (ns : List Int) (w : World) (h : Has w w.heap.size A ns) (hn : ns.length ≤ 300) :
    Calls Try.prog 32 #[.slice A ns.length c] w (GivesPoly w) := lowp_big A c ns w h (by omega)
theorem lowp_len (A : Option Addr) (c : Nat) (ns : List Int) (n : Nat) (w : World) (he : ns.length = n) (h : Has w w.heap.size A ns) (hn : ns.length ≤ 1000) :
    Calls Try.prog 32 #[.slice A n c] w (GivesPoly w) := by subst he; exact lowp_big A c ns w h hn
end Go.Proofs.Ytneopnlklhcopaa
