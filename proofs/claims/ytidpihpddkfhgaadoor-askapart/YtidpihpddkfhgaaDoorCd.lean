/- Contracts: the document's own reader: a number, what is left, the end. -/
import Derived.Test.YtidpihpddkfhgaaDoorCc
namespace Go.Proofs.YtidpihpddkfhgaaDoor
open Go.RowKit Slices Go.Proofs.YtidpihpddkfhgaaDoor.Bit

/-- a reader at block g: the bytes that are left, whether something was wrong -/
def RS (g : Nat) (A : Option Addr) (n c : Nat) (bad : Bool) (w : World) : Prop := w.heap[g]? = some (.cells #[.slice A n c, .bool bad] 69 (0, 0))
theorem RS.c0 {g n c : Nat} {A : Option Addr} {bad : Bool} {w : World} (h : RS g A n c bad w) : w.cell? ⟨g, 0, none⟩ = some (.slice A n c) := cell_of_row _ _ 0 _ _ _ h
theorem RS.c1 {g n c : Nat} {A : Option Addr} {bad : Bool} {w : World} (h : RS g A n c bad w) : w.cell? ⟨g, 1, none⟩ = some (.bool bad) := cell_of_row _ _ 1 _ _ _ h
theorem RS.f {g n c : Nat} {A : Option Addr} {bad : Bool} {w : World} (h : RS g A n c bad w) (j : Nat) : w.frozen? ⟨g, j, none⟩ = false := frozen_of_row _ _ j _ _ h
theorem RS.wrong {g n c : Nat} {A : Option Addr} {bad : Bool} {w : World} (h : RS g A n c bad w) : RS g A n c true (w.setCell ⟨g, 1, none⟩ (.bool true)) := by
  have := heap_setCell_same w g 1 _ _ (.bool true) h
  exact this
theorem RS.rest {g n c n' c' : Nat} {A A' : Option Addr} {bad : Bool} {w : World} (h : RS g A n c bad w) : RS g A' n' c' bad (w.setCell ⟨g, 0, none⟩ (.slice A' n' c')) := by
  have := heap_setCell_same w g 0 _ _ (.slice A' n' c') h
  exact this
theorem grown_cell (w : World) (g j : Nat) (u : Value) : w.grownBy (w.setCell ⟨g, j, none⟩ u) (some g) :=
  ⟨rfl, rfl, rfl, by simp [World.setCell], fun k _ hk => Below.heap_setCell w ⟨g, j, none⟩ u k (fun e => hk (by rw [e]))⟩

set_option maxHeartbeats 400000 in
theorem refEnd_any (g n c : Nat) (A : Option Addr) (bad : Bool) (w : World) (h : RS g A n c bad w) :
    Calls Tryd.prog 39 #[.pointer (some ⟨g, 0, none⟩)] w fun e w' => e = .returned (.int .i64 (if bad = true ∨ 0 < n then 4 else 0)) ∧ w = w' := by
  have c0 := h.c0
  have c1 := h.c1
  cases bad with
  | true =>
    rw [if_pos (.inl rfl)]
    go_enter Tryd.func39, Tryd.ntmps39
    go_wp2
    go_ret
    exact ⟨rfl, rfl⟩
  | false =>
    by_cases hn : 0 < n
    · rw [if_pos (.inr hn)]
      go_enter Tryd.func39, Tryd.ntmps39
      go_wp2
      go_ret
      exact ⟨rfl, rfl⟩
    · rw [if_neg (by simp; omega)]
      have e : n = 0 := by omega
      subst e
      go_enter Tryd.func39, Tryd.ntmps39
      go_wp2
      go_ret
      exact ⟨rfl, rfl⟩
/-- nothing was read: it is wrong from now on -/
def RdBad (g : Nat) (w : World) (e : Ending) (w' : World) : Prop := e = .returned (.int .i64 0) ∧ w' = w.setCell ⟨g, 1, none⟩ (.bool true)
set_option maxHeartbeats 400000 in
theorem refRNum_bad (g n c : Nat) (A : Option Addr) (lo hi : Int) (w : World) (h : RS g A n c true w) :
    Calls Tryd.prog 60 #[.pointer (some ⟨g, 0, none⟩), .int .i64 lo, .int .i64 hi] w (RdBad g w) := by
  have c0 := h.c0
  have c1 := h.c1
  have f1 := h.f 1
  clear h
  go_enter Tryd.func60, Tryd.ntmps60
  go_wp2
  go_ret
  exact ⟨rfl, rfl⟩
set_option maxHeartbeats 400000 in
theorem refRNum_short (g n c : Nat) (A : Option Addr) (lo hi : Int) (w : World) (h : RS g A n c false w) (hn : n < 8) :
    Calls Tryd.prog 60 #[.pointer (some ⟨g, 0, none⟩), .int .i64 lo, .int .i64 hi] w (RdBad g w) := by
  have c0 := h.c0
  have c1 := h.c1
  have f1 := h.f 1
  clear h
  go_enter Tryd.func60, Tryd.ntmps60
  go_wp2
  go_ret
  exact ⟨rfl, rfl⟩
/-- where the rest lies behind eight bytes -/
def restA (A : Option Addr) (c : Nat) : Option Addr := if c = 8 then A else A.map (·.add 8)
theorem or_step (v x : Nat) (hv : v < 72057594037927936) (hx : x < 256) : bits .or .u64 ((v : Int) * 256) (x : Int) = ((v * 256 + x : Nat) : Int) := by
  have h1 : v * 256 < 2 ^ 64 := by have : (2 : Nat) ^ 64 = 18446744073709551616 := by decide
                                   omega
  have h2 : x < 2 ^ 64 := by have : (2 : Nat) ^ 64 = 18446744073709551616 := by decide
                             omega
  have q := (bits_nat .u64 64 (by decide) (fun n h0 h1 => by
    have e : (2 : Int) ^ 64 = 18446744073709551616 := by decide
    rw [e] at h1
    simp [IntKind.wrap, IntKind.bits, IntKind.signed]
    omega) (v * 256) x h1 h2).2
  have e : v * 256 ||| x = v * 256 + x := by
    have := Nat.two_pow_add_eq_or_of_lt (i := 8) hx v
    rw [show (2 : Nat) ^ 8 = 256 from rfl, Nat.mul_comm] at this
    exact this.symm
  rw [e] at q
  rw [← q]
  congr 1
theorem val_step {l : List Int} (h : Fit 8 l) {k : Nat} (hk : k < 8) (hl : 8 ≤ l.length) : valTo l k < 72057594037927936 := by
  have h1 := valTo_lt h k (by omega)
  have h2 : 256 ^ k ≤ 256 ^ 7 := Nat.pow_le_pow_right (by decide) (by omega)
  have h3 : (256 : Nat) ^ 7 = 72057594037927936 := by decide
  omega
theorem val_all {l : List Int} (h : Fit 8 l) (hl : 8 ≤ l.length) : valTo l 8 < 18446744073709551616 := by
  have h1 := valTo_lt h 8 hl
  have h3 : (256 : Nat) ^ 8 = 18446744073709551616 := by decide
  omega

set_option maxRecDepth 100000 in
set_option maxHeartbeats 1000000 in
theorem refRNum_long (g c : Nat) (A : Option Addr) (l : List Int) (lo hi : Int) (w : World) (h : RS g A l.length c false w) (hh : Has .u8 w w.heap.size A l) (hf : Fit 8 l) (hl : 8 ≤ l.length) (hc : l.length ≤ c) (hx : lo ≤ wrap64 (valTo l 8 : Nat) ∧ wrap64 (valTo l 8 : Nat) ≤ hi) :
    Calls Tryd.prog 60 #[.pointer (some ⟨g, 0, none⟩), .int .i64 lo, .int .i64 hi] w fun e w' => e = .returned (.int .i64 (wrap64 (valTo l 8 : Nat))) ∧ w' = w.setCell ⟨g, 0, none⟩ (.slice (restA A c) (l.length - 8) (c - 8)) := by
  have c0 := h.c0
  have c1 := h.c1
  have f0 := h.f 0
  obtain ⟨a, rfl, _, _⟩ := hh 0 (by omega)
  have H := Lib.hid h
  have HH := Lib.hid hh
  have HF := Lib.hid hf
  have HX := Lib.hid hx
  clear h hh hf hx
  go_enter Tryd.func60, Tryd.ntmps60
  go_wp2
  go_loop [7, 8] (fun v i => ∃ k : Nat, k ≤ 8 ∧ v = .int .u64 (valTo l k : Nat) ∧ i = .int .i64 k) (fun _ i => 8 - (intOf i).toNat)
  case atStart => exact ⟨0, by omega, rfl, rfl⟩
  case round =>
    obtain ⟨k, hk, rfl, rfl⟩ := hrel
    by_cases hlt : k < 8
    · obtain ⟨a', e', _, hac⟩ := HH.out k (by omega)
      injection e' with e'
      subst e'
      obtain ⟨y, hy, y1, _⟩ := HF.out.at (i := k) (by omega)
      have y2 : y < 256 := y1
      rw [hy] at hac
      have hv := val_step HF.out hlt hl
      have HNX : Hid (valTo l (k + 1) = valTo l k * 256 + y) := by show valTo l k * 256 + (l.getD k 0).toNat = _; rw [hy]; rfl
      generalize valTo l k = v at hv HNX
      have ho := or_step v y hv y2
      clear hy y1
      go_wp2
      go_round
      case rel => exact ⟨k + 1, by omega, by rw [HNX.out]; go_num, by go_num⟩
      case measure => simp [intOf]; omega
    · have e : k = 8 := by omega
      subst e
      obtain ⟨x0, x1⟩ := HX.out
      have HVL := Lib.hid (val_all HF.out hl)
      obtain ⟨x, hx⟩ : ∃ x, x = wrap64 (valTo l 8 : Nat) := ⟨_, rfl⟩
      rw [← hx] at x0 x1
      have hx' := hx.symm
      have HXX := Lib.hid hx
      clear hx
      by_cases h8 : c = 8
      · subst h8
        have e8 : l.length = 8 := by omega
        have HE := Lib.hid e8
        go_wp2
        go_ret
        refine ⟨rfl, ?_⟩
        first | rfl | (rw [HE.out]; rfl)
      · have HRA : Hid (restA (some a) c = some (a.add 8)) := if_neg h8
        go_wp2
        go_ret
        rw [HRA.out]
        exact ⟨rfl, rfl⟩
set_option maxRecDepth 100000 in
set_option maxHeartbeats 1000000 in
theorem refRNum_out (g c : Nat) (A : Option Addr) (l : List Int) (lo hi : Int) (w : World) (h : RS g A l.length c false w) (hh : Has .u8 w w.heap.size A l) (hf : Fit 8 l) (hl : 8 ≤ l.length) (hx : ¬ (lo ≤ wrap64 (valTo l 8 : Nat) ∧ wrap64 (valTo l 8 : Nat) ≤ hi)) :
    Calls Tryd.prog 60 #[.pointer (some ⟨g, 0, none⟩), .int .i64 lo, .int .i64 hi] w (RdBad g w) := by
  have c0 := h.c0
  have c1 := h.c1
  have f1 := h.f 1
  obtain ⟨a, rfl, _, _⟩ := hh 0 (by omega)
  have H := Lib.hid h
  have HH := Lib.hid hh
  have HF := Lib.hid hf
  have HX := Lib.hid hx
  clear h hh hf hx
  go_enter Tryd.func60, Tryd.ntmps60
  go_wp2
  go_loop [7, 8] (fun v i => ∃ k : Nat, k ≤ 8 ∧ v = .int .u64 (valTo l k : Nat) ∧ i = .int .i64 k) (fun _ i => 8 - (intOf i).toNat)
  case atStart => exact ⟨0, by omega, rfl, rfl⟩
  case round =>
    obtain ⟨k, hk, rfl, rfl⟩ := hrel
    by_cases hlt : k < 8
    · obtain ⟨a', e', _, hac⟩ := HH.out k (by omega)
      injection e' with e'
      subst e'
      obtain ⟨y, hy, y1, _⟩ := HF.out.at (i := k) (by omega)
      have y2 : y < 256 := y1
      rw [hy] at hac
      have hv := val_step HF.out hlt hl
      have HNX : Hid (valTo l (k + 1) = valTo l k * 256 + y) := by show valTo l k * 256 + (l.getD k 0).toNat = _; rw [hy]; rfl
      generalize valTo l k = v at hv HNX
      have ho := or_step v y hv y2
      clear hy y1
      go_wp2
      go_round
      case rel => exact ⟨k + 1, by omega, by rw [HNX.out]; go_num, by go_num⟩
      case measure => simp [intOf]; omega
    · have e : k = 8 := by omega
      subst e
      have hx0 := HX.out
      obtain ⟨x, hx⟩ : ∃ x, x = wrap64 (valTo l 8 : Nat) := ⟨_, rfl⟩
      rw [← hx] at hx0
      have hx' := hx.symm
      clear hx
      by_cases h1 : x < lo
      · clear hx0
        go_wp2
        go_ret
        exact ⟨rfl, rfl⟩
      · have h2 : hi < x := by omega
        have h3 : lo ≤ x := by omega
        clear hx0
        go_wp2
        go_ret
        exact ⟨rfl, rfl⟩
end Go.Proofs.YtidpihpddkfhgaaDoor
