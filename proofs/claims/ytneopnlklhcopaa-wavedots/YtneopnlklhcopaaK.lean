/- Contracts: what is lent, and what is written over. -/
import Derived.Test.YtneopnlklhcopaaA
import Derived.Test.YtneopnlklhcopaaB
namespace Go.Proofs.Ytneopnlklhcopaa
open Go.RowKit Slices Go.Proofs.Ytneopnlklhcopaa.Ring

def marks : List Int := [-777, -777, -777]
/-- block g holds l with three marks behind -/
def Lent (w : World) (B g : Nat) (l : List Int) : Prop :=
  w.ownsRow B 3 1 (.slice (some ⟨g, 0, none⟩) (l.length + 3) (l.length + 3)) (l.length + 3) (ints (l ++ marks))

theorem marks_take (l : List Int) (k : Nat) (h : k < 3) : ints (l ++ marks.take k) ++ [.int .i64 (-777)] = ints (l ++ marks.take (k + 1)) := by
  have : k = 0 ∨ k = 1 ∨ k = 2 := by omega
  rcases this with rfl | rfl | rfl <;> simp [ints, marks]

def LendPost (w : World) (l : List Int) (e : Ending) (w' : World) : Prop :=
  ∃ g, e = .returned (.slice (some ⟨g, 0, none⟩) l.length (l.length + 3)) ∧ Lent w' w.heap.size g l ∧ Below w.heap.size w w'

def LendRel (w : World) (l : List Int) (k : Nat) (wr : World) : Prop :=
  wr.ownsRow w.heap.size 3 1 (.slice (some ⟨w.heap.size, 0, none⟩) (l.length + k) (l.length + 3)) (l.length + k) (ints (l ++ marks.take k)) ∧ Below w.heap.size w wr

set_option maxRecDepth 100000 in
set_option maxHeartbeats 400000 in
theorem lend_any (A : Option Addr) (c : Nat) (l : List Int) (w : World) (h : Has w w.heap.size A l) (hA : A = none → l.length = 0 ∧ c = 0) (hn : l.length ≤ 300) :
    Calls Try.prog 12 #[.slice A l.length c] w (LendPost w l) := by
  obtain ⟨i0, hi0, hz0, hz1, hz2⟩ := info_parts Try.info3
  have hc : ∀ ad, A = some ad → ∀ j u, (ints l)[j]? = some u → w.cell? (ad.add j) = some u := by
    intro ad e j u hu
    by_cases h0 : 0 < l.length
    · obtain ⟨a1, e1, _, h1⟩ := h.addr h0
      rw [e] at e1
      injection e1 with e1
      subst e1
      exact h1 j u hu
    · have : j < (ints l).length := (List.getElem?_eq_some_iff.mp hu).1
      rw [ints_length] at this
      omega
  have HC := Lib.hid hc
  have HA := Lib.hid hA
  clear hc h hA
  go_enter Try.func12, Try.ntmps12
  go_wp2_with (first
    | (at_make; refine wpList_make_own _ rfl _ _ 22 rfl w.heap.size 3 i0 (.int .i64 0) 1 Try.underlying22 hi0 hz0 hz1 _ _ _ (l.length + 3) rfl rfl (by omega) (by rw [hz2]; omega) (by unfold maxLen; omega) (Nat.le_refl _) ?_; intro w1 hown hgrow; have HO := Lib.hid hown; clear hown; have HG := Lib.hid hgrow; clear hgrow)
    | (at_builtin; refine wpList_append_fits_any _ rfl _ _ 22 rfl w.heap.size 3 i0 1 Try.underlying22 hi0 hz1 w.heap.size 0 (l.length + 3) [] rfl HO.out A l.length c (ints l) rfl (by rw [ints_length]; omega) HA.out (by intro ad e j u hu; exact HG.out.cell (HC.out ad e j u hu) (by simp)) (ints_one l) (by omega) ?_; intro w2 hown2 hgrow2; rw [List.nil_append, Nat.zero_add] at hown2; have HO2 := Lib.hid hown2; clear hown2; have HG2 := Lib.hid hgrow2; clear hgrow2))
  have hst : LendRel w l 0 w2 := ⟨by simpa [marks] using HO2.out, ((Below.refl _ _).grown HG.out (Nat.le_refl _) (by simp)).grown HG2.out (by have := HG.out.size; omega) (by intro k hk; injection hk with hk; omega)⟩
  have HST := Lib.hid hst
  clear hst HO HG HO2 HG2
  generalize h3 : l.length + 3 - l.length = three
  have t3 : 3 ≤ three := by omega
  have t3' : three ≤ 3 := by omega
  clear h3
  go_loopw [5] (fun i wr => ∃ k : Nat, k ≤ 3 ∧ i = .int .i64 k ∧ LendRel w l k wr) (fun i _ => 3 - (intOf i).toNat)
  case atStart => exact ⟨0, by omega, rfl, HST.out⟩
  case round =>
    obtain ⟨k, hk, rfl, hr⟩ := hrel
    have HR := Lib.hid hr
    clear hr HST
    by_cases hlt : k < 3
    · obtain ⟨v0, hv0⟩ := own_spare HR.out.1 (k := l.length + k) (by omega)
      have hf := HR.out.1.frozenAt (l.length + k)
      go_wp2
      go_roundw
      case rel => exact ⟨k + 1, by omega, by go_num, by have := own_push HR.out.1 (by omega) (.int .i64 (-777)); rwa [marks_take l k hlt] at this, HR.out.2.setCell (Nat.le_refl _) _⟩
      case measure => simp [intOf]; omega
    · go_wp2
      go_ret
      have e : k = 3 := by omega
      subst e
      exact ⟨_, rfl, HR.out.1, HR.out.2⟩

theorem lent_cell {w : World} {B g : Nat} {l : List Int} (h : Lent w B g l) {k : Nat} (hk : k < 3) : w.cell? ⟨g, l.length + k, none⟩ = some (.int .i64 (-777)) := by
  have := own_cell h (k := l.length + k) (by omega)
  rw [this, List.getD_eq_getElem?_getD, List.getElem?_append_right (by omega), Nat.add_sub_cancel_left]
  have : k = 0 ∨ k = 1 ∨ k = 2 := by omega
  rcases this with rfl | rfl | rfl <;> rfl
theorem lent_has {w : World} {B g : Nat} {l : List Int} (h : Lent w B g l) : Has w w.heap.size (some ⟨g, 0, none⟩) l := own_has (own_less h rfl)
theorem lent_block {w : World} {B g : Nat} {l : List Int} (h : Lent w B g l) : B ≤ g ∧ g < w.heap.size := own_block h

set_option maxRecDepth 100000 in
set_option maxHeartbeats 400000 in
theorem kept_any (g B : Nat) (A : Option Addr) (c : Nat) (l : List Int) (w : World) (h : Lent w B g l) (h' : Has w w.heap.size A l) (hn : l.length ≤ 300) :
    Calls Try.prog 31 #[.slice (some ⟨g, 0, none⟩) l.length (l.length + 3), .slice A l.length c] w fun e w' => e = .returned (.bool true) ∧ ∃ n, w' = w.drewN n := by
  have H := Lib.hid h
  have H' := Lib.hid h'
  clear h h'
  go_enter Try.func31, Try.ntmps31
  go_wp2
  generalize h3 : l.length + 3 - l.length = three
  have t3 : 3 ≤ three := by omega
  have t3' : three ≤ 3 := by omega
  clear h3
  go_loopw [6] (fun i wr => ∃ k n : Nat, k ≤ 3 ∧ i = .int .i64 k ∧ wr = w.drewN n) (fun i _ => 3 - (intOf i).toNat)
  case atStart => exact ⟨0, 0, by omega, rfl, rfl⟩
  case round =>
    obtain ⟨k, n, hk, rfl, rfl⟩ := hrel
    by_cases hlt : k < 3
    · have hc := lent_cell H.out hlt
      go_wp2
      go_roundw
      case rel => exact ⟨k + 1, n, by omega, by go_num, rfl⟩
      case measure => simp [intOf]; omega
    · go_wp2_with (go_at_call 18; refine (same_true _ _ _ _ w.heap.size _ _ (by omega) ((lent_has H.out).drewN _) (H'.out.drewN _)).mono ?_; rintro e w' ⟨rfl, n', rfl⟩)
      go_ret
      exact ⟨rfl, _, rfl⟩
end Go.Proofs.Ytneopnlklhcopaa
