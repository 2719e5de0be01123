/- Contracts: the landed reader: what it refuses, what it takes, a number. -/
import Derived.Test.YtmegjjfgiibobaaDoorOa
import Derived.Test.YtmegjjfgiibobaaDoorCh
namespace Go.Proofs.YtmegjjfgiibobaaDoor
open Go.RowKit Slices Go.Proofs.YtmegjjfgiibobaaDoor.Bit

/-- a reader at block g: the bytes that are left, whether something was wrong -/
def PS (g : Nat) (A : Option Addr) (n c : Nat) (bad : Bool) (w : World) : Prop := w.heap[g]? = some (.cells #[.slice A n c, .bool bad] 56 (0, 0))
theorem PS.c0 {g n c : Nat} {A : Option Addr} {bad : Bool} {w : World} (h : PS g A n c bad w) : w.cell? ⟨g, 0, none⟩ = some (.slice A n c) := cell_of_row _ _ 0 _ _ _ h
theorem PS.c1 {g n c : Nat} {A : Option Addr} {bad : Bool} {w : World} (h : PS g A n c bad w) : w.cell? ⟨g, 1, none⟩ = some (.bool bad) := cell_of_row _ _ 1 _ _ _ h
theorem PS.f {g n c : Nat} {A : Option Addr} {bad : Bool} {w : World} (h : PS g A n c bad w) (j : Nat) : w.frozen? ⟨g, j, none⟩ = false := frozen_of_row _ _ j _ _ h
theorem PS.wrong {g n c : Nat} {A : Option Addr} {bad : Bool} {w : World} (h : PS g A n c bad w) : PS g A n c true (w.setCell ⟨g, 1, none⟩ (.bool true)) := by
  have := heap_setCell_same w g 1 _ _ (.bool true) h
  exact this
theorem PS.rest {g n c n' c' : Nat} {A A' : Option Addr} {bad : Bool} {w : World} (h : PS g A n c bad w) : PS g A' n' c' bad (w.setCell ⟨g, 0, none⟩ (.slice A' n' c')) := by
  have := heap_setCell_same w g 0 _ _ (.slice A' n' c') h
  exact this
theorem PS.lt {g n c : Nat} {A : Option Addr} {bad : Bool} {w : World} (h : PS g A n c bad w) : g < w.heap.size := (Array.getElem?_eq_some_iff.1 h).1

theorem val_take (l : List Int) (n : Nat) : ∀ k, k ≤ n → valTo (l.take n) k = valTo l k := by
  intro k
  induction k with
  | zero => intro _; rfl
  | succ k ih =>
    intro hk
    show valTo (l.take n) k * 256 + ((l.take n).getD k 0).toNat = valTo l k * 256 + (l.getD k 0).toNat
    rw [ih (by omega), getD_take l n k (by omega)]

set_option maxRecDepth 100000 in
set_option maxHeartbeats 1000000 in
theorem numberIn_any (B n c : Nat) (A : Option Addr) (l : List Int) (w : World) (hh : Has .u8 w B A l) (hf : Fit 8 l) (hn : n = l.length) (h8 : n ≤ 8) :
    Calls Tryd.prog 42 #[.slice A n c] w fun e w' => e = .returned (.int .i64 (wrap64 (valTo l n : Nat))) ∧ w = w' := by
  have HH := Lib.hid hh
  have HF := Lib.hid hf
  have HN := Lib.hid hn
  clear hh hf hn
  go_enter Tryd.func42, Tryd.ntmps42
  go_wp2
  go_loop [3, 8] (fun v i => ∃ k : Nat, k ≤ n ∧ v = .int .i64 (wrap64 (valTo l k : Nat)) ∧ i = .int .i64 k) (fun _ i => n - (intOf i).toNat)
  case atStart => exact ⟨0, by omega, congrArg (Value.int .i64) (wrap_small (v := 0) (by decide)).symm, rfl⟩
  case round =>
    obtain ⟨k, hk, rfl, rfl⟩ := hrel
    by_cases hlt : k < n
    · obtain ⟨a, rfl, _, hac⟩ := HH.out k (by have := HN.out; omega)
      obtain ⟨y, hy, y1, _⟩ := HF.out.at (i := k) (by have := HN.out; omega)
      have y2 : y < 256 := y1
      rw [hy] at hac
      have hv : valTo l k < 72057594037927936 := by
        have h1 := valTo_lt HF.out k (by have := HN.out; omega)
        have h2 : 256 ^ k ≤ 256 ^ 7 := Nat.pow_le_pow_right (by decide) (by omega)
        have h3 : (256 : Nat) ^ 7 = 72057594037927936 := by decide
        omega
      have HNX : Hid (valTo l (k + 1) = valTo l k * 256 + y) := by show valTo l k * 256 + (l.getD k 0).toNat = _; rw [hy]; rfl
      generalize valTo l k = v at hv HNX
      have hw := wrap_small hv
      rw [hw]
      have ho := or_low v y hv y2
      clear hy y1 hw
      go_wp2
      go_round
      case rel => exact ⟨k + 1, by omega, by rw [HNX.out, Int.natCast_add, Int.natCast_mul]; rfl, by go_num⟩
      case measure => simp [intOf]; omega
    · have e : k = n := by omega
      subst e
      go_wp2
      go_ret
      exact ⟨rfl, rfl⟩

set_option maxHeartbeats 1000000 in
theorem refuse_any (g n c : Nat) (A : Option Addr) (bad : Bool) (w : World) (h : PS g A n c bad w) :
    Calls Tryd.prog 44 #[.pointer (some ⟨g, 0, none⟩)] w fun e w' => e = .returned (.tuple #[]) ∧ PS g none 0 0 true w' ∧ w.grownBy w' (some g) := by
  have c0 := h.c0
  have c1 := h.c1
  have f0 := h.f 0
  have f1 := h.f 1
  have H := Lib.hid h
  clear h
  go_enter Tryd.func44, Tryd.ntmps44
  go_wp2
  go_end0
  exact ⟨rfl, (H.out.rest (A' := none) (n' := 0) (c' := 0)).wrong, grown_two (grown_cell _ _ _ _) (grown_cell _ _ _ _)⟩

/-- where the rest lies behind n elements -/
def restN (A : Option Addr) (c n : Nat) : Option Addr := if c = n then A else A.map (·.add n)
theorem has_restN {w : World} {B c n : Nat} {A : Option Addr} {l : List Int} (h : Has .u8 w B A l) (hn : n ≤ l.length) (hc : l.length ≤ c) : Has .u8 w B (restN A c n) (l.drop n) := fun k hk => by
  rw [List.length_drop] at hk
  obtain ⟨a, e, hb, hcell⟩ := h (n + k) (by omega)
  subst e
  have e1 : restN (some a) c n = some (a.add n) := if_neg (by omega)
  rw [e1]
  refine ⟨_, rfl, by rw [add_block]; exact hb, ?_⟩
  rw [add_add14, List.getD_eq_getElem?_getD, List.getElem?_drop, ← List.getD_eq_getElem?_getD]
  exact hcell
theorem restN_block {A : Option Addr} {c n : Nat} {a : Addr} (h : restN A c n = some a) : ∃ a', A = some a' ∧ a'.block = a.block := by
  unfold restN at h
  split at h
  · exact ⟨a, h, rfl⟩
  · rcases A with _ | a'
    · cases h
    · injection h with h
      exact ⟨a', rfl, by rw [← h, add_block]⟩
theorem restN_none {A : Option Addr} {c n : Nat} (h : restN A c n = none) : A = none := by
  unfold restN at h
  split at h
  · exact h
  · rcases A with _ | a'
    · rfl
    · cases h

/-- nothing is told: it is wrong from now on -/
def Refused (g : Nat) (v : Value) (w : World) (e : Ending) (w' : World) : Prop := e = .returned v ∧ PS g none 0 0 true w' ∧ w.grownBy w' (some g)
set_option maxHeartbeats 1000000 in
theorem take_no (g m c : Nat) (A : Option Addr) (n : Int) (bad : Bool) (w : World) (h : PS g A m c bad w) (hn : (m : Int) < n) :
    Calls Tryd.prog 43 #[.pointer (some ⟨g, 0, none⟩), .int .i64 n] w (Refused g (.slice none 0 0) w) := by
  have c0 := h.c0
  have H := Lib.hid h
  clear h
  go_enter Tryd.func43, Tryd.ntmps43
  go_wp2_with fail
  refine (refuse_any g m c A bad _ H.out).mono ?_
  rintro e w1 ⟨rfl, h1, h2⟩
  go_wp2
  go_ret
  exact ⟨rfl, h1, h2⟩
set_option maxHeartbeats 1000000 in
theorem take_yes (g m c n : Nat) (A : Option Addr) (bad : Bool) (w : World) (h : PS g A m c bad w) (hn : n ≤ m) (hc : m ≤ c) (hA : A = none → c = 0) :
    Calls Tryd.prog 43 #[.pointer (some ⟨g, 0, none⟩), .int .i64 (n : Int)] w fun e w' => e = .returned (.slice A n c) ∧ w' = w.setCell ⟨g, 0, none⟩ (.slice (restN A c n) (m - n) (c - n)) := by
  have c0 := h.c0
  have f0 := h.f 0
  have H := Lib.hid h
  have HA := Lib.hid hA
  have d1 : decide ((m : Int) < (n : Int)) = false := by rw [decide_eq_false_iff_not]; omega
  have n1 : (n : Int) ≤ (c : Int) := by omega
  have n2 : (n : Int) ≤ (m : Int) := by omega
  have n3 : (m : Int) ≤ (c : Int) := by omega
  clear h hA
  by_cases hcn : c = n
  · have e : restN A c n = A := if_pos hcn
    rw [e]
    go_enter Tryd.func43, Tryd.ntmps43
    go_wp2
    go_ret
    refine ⟨by subst hcn; rfl, ?_⟩
    rw [show c - n = 0 by omega]
  · obtain ⟨a, rfl⟩ : ∃ a, A = some a := by
      rcases A with _ | a
      · have := HA.out rfl; omega
      · exact ⟨a, rfl⟩
    have e : restN (some a) c n = some (a.add n) := if_neg hcn
    rw [e]
    go_enter Tryd.func43, Tryd.ntmps43
    go_wp2
    go_ret
    exact ⟨rfl, rfl⟩
end Go.Proofs.YtmegjjfgiibobaaDoor
