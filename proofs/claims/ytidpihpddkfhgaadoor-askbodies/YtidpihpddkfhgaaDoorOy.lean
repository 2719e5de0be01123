/- Several texts in one: Oe, Of, Og, Oh. -/
import Derived.Test.YtidpihpddkfhgaaDoorOx
import Derived.Test.YtidpihpddkfhgaaDoorCh
import Derived.Test.YtidpihpddkfhgaaDoorCk
import Derived.Laws.BytesArg
/- Contracts: the landed reader: what it refuses, what it takes, a number. -/
namespace Go.Proofs.YtidpihpddkfhgaaDoor
open Go.RowKit Slices Go.Proofs.YtidpihpddkfhgaaDoor.Bit

/-- a reader at block g: the bytes that are left, whether something was wrong -/
def PS (g : Nat) (A : Option Addr) (n c : Nat) (bad : Bool) (w : World) : Prop := w.heap[g]? = some (.cells #[.slice A n c, .bool bad] 130 (0, 0))
theorem PS.c0 {g n c : Nat} {A : Option Addr} {bad : Bool} {w : World} (h : PS g A n c bad w) : w.cell? ⟨g, 0, none⟩ = some (.slice A n c) := cell_of_row _ _ 0 _ _ _ h
theorem PS.c1 {g n c : Nat} {A : Option Addr} {bad : Bool} {w : World} (h : PS g A n c bad w) : w.cell? ⟨g, 1, none⟩ = some (.bool bad) := cell_of_row _ _ 1 _ _ _ h
theorem PS.f {g n c : Nat} {A : Option Addr} {bad : Bool} {w : World} (h : PS g A n c bad w) (j : Nat) : w.frozen? ⟨g, j, none⟩ = false := frozen_of_row _ _ j _ _ h
theorem PS.wrong {g n c : Nat} {A : Option Addr} {bad : Bool} {w : World} (h : PS g A n c bad w) : PS g A n c true (w.setCell ⟨g, 1, none⟩ (.bool true)) := by
  have := heap_setCell_same w g 1 _ _ (.bool true) h
  exact this
theorem PS.rest {g n c n' c' : Nat} {A A' : Option Addr} {bad : Bool} {w : World} (h : PS g A n c bad w) : PS g A' n' c' bad (w.setCell ⟨g, 0, none⟩ (.slice A' n' c')) := by
  have := heap_setCell_same w g 0 _ _ (.slice A' n' c') h
  exact this
theorem PS.lt {g n c : Nat} {A : Option Addr} {bad : Bool} {w : World} (h : PS g A n c bad w) : g < w.heap.size := (Array.getElem?_eq_some_iff.1 h).1

theorem val_take (l : List Int) (n : Nat) : ∀ k, k ≤ n → valTo (l.take n) k = valTo l k := by
  intro k
  induction k with
  | zero => intro _; rfl
  | succ k ih =>
    intro hk
    show valTo (l.take n) k * 256 + ((l.take n).getD k 0).toNat = valTo l k * 256 + (l.getD k 0).toNat
    rw [ih (by omega), getD_take l n k (by omega)]

set_option maxRecDepth 100000 in
set_option maxHeartbeats 1000000 in
theorem numberIn_any (B n c : Nat) (A : Option Addr) (l : List Int) (w : World) (hh : Has .u8 w B A l) (hf : Fit 8 l) (hn : n = l.length) (h8 : n ≤ 8) :
    Calls Tryd.prog 75 #[.slice A n c] w fun e w' => e = .returned (.int .i64 (wrap64 (valTo l n : Nat))) ∧ w = w' := by
  have HH := Lib.hid hh
  have HF := Lib.hid hf
  have HN := Lib.hid hn
  clear hh hf hn
  go_enter Tryd.func75, Tryd.ntmps75
  go_wp2
  go_loop [3, 8] (fun v i => ∃ k : Nat, k ≤ n ∧ v = .int .i64 (wrap64 (valTo l k : Nat)) ∧ i = .int .i64 k) (fun _ i => n - (intOf i).toNat)
  case atStart => exact ⟨0, by omega, congrArg (Value.int .i64) (wrap_small (v := 0) (by decide)).symm, rfl⟩
  case round =>
    obtain ⟨k, hk, rfl, rfl⟩ := hrel
    by_cases hlt : k < n
    · obtain ⟨a, rfl, _, hac⟩ := HH.out k (by have := HN.out; omega)
      obtain ⟨y, hy, y1, _⟩ := HF.out.at (i := k) (by have := HN.out; omega)
      have y2 : y < 256 := y1
      rw [hy] at hac
      have hv : valTo l k < 72057594037927936 := by
        have h1 := valTo_lt HF.out k (by have := HN.out; omega)
        have h2 : 256 ^ k ≤ 256 ^ 7 := Nat.pow_le_pow_right (by decide) (by omega)
        have h3 : (256 : Nat) ^ 7 = 72057594037927936 := by decide
        omega
      have HNX : Hid (valTo l (k + 1) = valTo l k * 256 + y) := by show valTo l k * 256 + (l.getD k 0).toNat = _; rw [hy]; rfl
      generalize valTo l k = v at hv HNX
      have hw := wrap_small hv
      rw [hw]
      have ho := or_low v y hv y2
      clear hy y1 hw
      go_wp2
      go_round
      case rel => exact ⟨k + 1, by omega, by rw [HNX.out, Int.natCast_add, Int.natCast_mul]; rfl, by go_num⟩
      case measure => simp [intOf]; omega
    · have e : k = n := by omega
      subst e
      go_wp2
      go_ret
      exact ⟨rfl, rfl⟩

set_option maxHeartbeats 1000000 in
theorem refuse_any (g n c : Nat) (A : Option Addr) (bad : Bool) (w : World) (h : PS g A n c bad w) :
    Calls Tryd.prog 77 #[.pointer (some ⟨g, 0, none⟩)] w fun e w' => e = .returned (.tuple #[]) ∧ PS g none 0 0 true w' ∧ w.grownBy w' (some g) := by
  have c0 := h.c0
  have c1 := h.c1
  have f0 := h.f 0
  have f1 := h.f 1
  have H := Lib.hid h
  clear h
  go_enter Tryd.func77, Tryd.ntmps77
  go_wp2
  go_end0
  exact ⟨rfl, (H.out.rest (A' := none) (n' := 0) (c' := 0)).wrong, grown_two (grown_cell _ _ _ _) (grown_cell _ _ _ _)⟩

/-- where the rest lies behind n elements -/
def restN (A : Option Addr) (c n : Nat) : Option Addr := if c = n then A else A.map (·.add n)
theorem has_restN {w : World} {B c n : Nat} {A : Option Addr} {l : List Int} (h : Has .u8 w B A l) (hn : n ≤ l.length) (hc : l.length ≤ c) : Has .u8 w B (restN A c n) (l.drop n) := fun k hk => by
  rw [List.length_drop] at hk
  obtain ⟨a, e, hb, hcell⟩ := h (n + k) (by omega)
  subst e
  have e1 : restN (some a) c n = some (a.add n) := if_neg (by omega)
  rw [e1]
  refine ⟨_, rfl, by rw [add_block]; exact hb, ?_⟩
  rw [add_add14, List.getD_eq_getElem?_getD, List.getElem?_drop, ← List.getD_eq_getElem?_getD]
  exact hcell
theorem restN_block {A : Option Addr} {c n : Nat} {a : Addr} (h : restN A c n = some a) : ∃ a', A = some a' ∧ a'.block = a.block := by
  unfold restN at h
  split at h
  · exact ⟨a, h, rfl⟩
  · rcases A with _ | a'
    · cases h
    · injection h with h
      exact ⟨a', rfl, by rw [← h, add_block]⟩
theorem restN_none {A : Option Addr} {c n : Nat} (h : restN A c n = none) : A = none := by
  unfold restN at h
  split at h
  · exact h
  · rcases A with _ | a'
    · rfl
    · cases h

/-- nothing is told: it is wrong from now on -/
def Refused (g : Nat) (v : Value) (w : World) (e : Ending) (w' : World) : Prop := e = .returned v ∧ PS g none 0 0 true w' ∧ w.grownBy w' (some g)
set_option maxHeartbeats 1000000 in
theorem take_no (g m c : Nat) (A : Option Addr) (n : Int) (bad : Bool) (w : World) (h : PS g A m c bad w) (hn : (m : Int) < n) :
    Calls Tryd.prog 76 #[.pointer (some ⟨g, 0, none⟩), .int .i64 n] w (Refused g (.slice none 0 0) w) := by
  have c0 := h.c0
  have H := Lib.hid h
  clear h
  go_enter Tryd.func76, Tryd.ntmps76
  go_wp2_with fail
  refine (refuse_any g m c A bad _ H.out).mono ?_
  rintro e w1 ⟨rfl, h1, h2⟩
  go_wp2
  go_ret
  exact ⟨rfl, h1, h2⟩
set_option maxHeartbeats 1000000 in
theorem take_yes (g m c n : Nat) (A : Option Addr) (bad : Bool) (w : World) (h : PS g A m c bad w) (hn : n ≤ m) (hc : m ≤ c) (hA : A = none → c = 0) :
    Calls Tryd.prog 76 #[.pointer (some ⟨g, 0, none⟩), .int .i64 (n : Int)] w fun e w' => e = .returned (.slice A n c) ∧ w' = w.setCell ⟨g, 0, none⟩ (.slice (restN A c n) (m - n) (c - n)) := by
  have c0 := h.c0
  have f0 := h.f 0
  have H := Lib.hid h
  have HA := Lib.hid hA
  have d1 : decide ((m : Int) < (n : Int)) = false := by rw [decide_eq_false_iff_not]; omega
  have n1 : (n : Int) ≤ (c : Int) := by omega
  have n2 : (n : Int) ≤ (m : Int) := by omega
  have n3 : (m : Int) ≤ (c : Int) := by omega
  clear h hA
  by_cases hcn : c = n
  · have e : restN A c n = A := if_pos hcn
    rw [e]
    go_enter Tryd.func76, Tryd.ntmps76
    go_wp2
    go_ret
    refine ⟨by subst hcn; rfl, ?_⟩
    rw [show c - n = 0 by omega]
  · obtain ⟨a, rfl⟩ : ∃ a, A = some a := by
      rcases A with _ | a
      · have := HA.out rfl; omega
      · exact ⟨a, rfl⟩
    have e : restN (some a) c n = some (a.add n) := if_neg hcn
    rw [e]
    go_enter Tryd.func76, Tryd.ntmps76
    go_wp2
    go_ret
    exact ⟨rfl, rfl⟩
end Go.Proofs.YtidpihpddkfhgaaDoor

/- Contracts: the landed reader: a number, a part. -/
namespace Go.Proofs.YtidpihpddkfhgaaDoor
open Go.RowKit Slices Go.Proofs.YtidpihpddkfhgaaDoor.Bit

/-- a reader at block g: its bytes lie in an elder block, from block z0 on; nothing is left once something was wrong -/
def Rp (z0 g : Nat) (l : List Int) (bad : Bool) (w : World) : Prop :=
  (bad = true → l = [] ∧ PS g none 0 0 true w) ∧ ∃ A c, PS g A l.length c bad w ∧ Has .u8 w g A l ∧ l.length ≤ c ∧ (A = none → c = 0) ∧ (∀ a, A = some a → z0 ≤ a.block)
theorem rp_refused {g : Nat} (z0 : Nat) {w' : World} (h : PS g none 0 0 true w') : Rp z0 g [] true w' :=
  ⟨fun _ => ⟨rfl, h⟩, none, 0, h, Has.nil _ _ _ _, Nat.le_refl _, fun _ => rfl, fun a e => by cases e⟩
theorem Rp.lt {z0 g : Nat} {l : List Int} {bad : Bool} {w : World} (h : Rp z0 g l bad w) : g < w.heap.size := by
  obtain ⟨_, A, c, h1, _⟩ := h
  exact h1.lt
/-- what becomes of a reader whose first bytes are taken -/
theorem rp_taken {z0 g c n : Nat} {A : Option Addr} {l : List Int} {bad : Bool} {w : World} (hb : bad = false) (h1 : PS g A l.length c bad w) (h2 : Has .u8 w g A l) (h3 : l.length ≤ c) (h4 : A = none → c = 0) (h5 : ∀ a, A = some a → z0 ≤ a.block) (hn : n ≤ l.length) :
    Rp z0 g (l.drop n) bad (w.setCell ⟨g, 0, none⟩ (.slice (restN A c n) (l.length - n) (c - n))) := by
  refine ⟨fun h => Bool.noConfusion (hb.symm.trans h), restN A c n, c - n, ?_, has_put (has_restN h2 hn h3), by rw [List.length_drop]; omega, fun e => by have := h4 (restN_none e); omega, fun a e => ?_⟩
  · rw [List.length_drop]
    exact h1.rest
  · obtain ⟨a', e', hb'⟩ := restN_block e
    rw [← hb']
    exact h5 a' e'
/-- the next n bytes -/
def Taken (z0 g n : Nat) (l : List Int) (w : World) (e : Ending) (w' : World) : Prop :=
  ∃ A c, e = .returned (.slice A n c) ∧ Has .u8 w' g A (l.take n) ∧ (A = none → n = 0 ∧ c = 0) ∧ Rp z0 g (l.drop n) false w' ∧ w.grownBy w' (some g)
theorem take_rp (z0 g n : Nat) (l : List Int) (w : World) (h : Rp z0 g l false w) (hn : n ≤ l.length) :
    Calls Tryd.prog 76 #[.pointer (some ⟨g, 0, none⟩), .int .i64 (n : Int)] w (Taken z0 g n l w) := by
  obtain ⟨_, A, c, h1, h2, h3, h4, h5⟩ := h
  refine (take_yes g l.length c n A false w h1 hn h3 h4).mono ?_
  rintro e w' ⟨he, rfl⟩
  exact ⟨A, c, he, has_put (h2.take n), fun e => by have := h4 e; omega, rp_taken rfl h1 h2 h3 h4 h5 hn, grown_cell _ _ _ _⟩
/-- what is refused -/
def Ref (z0 g : Nat) (v : Value) (w : World) (e : Ending) (w' : World) : Prop := e = .returned v ∧ Rp z0 g [] true w' ∧ w.grownBy w' (some g)
theorem take_rp_no (z0 g : Nat) (n : Int) (l : List Int) (bad : Bool) (w : World) (h : Rp z0 g l bad w) (hn : (l.length : Int) < n) :
    Calls Tryd.prog 76 #[.pointer (some ⟨g, 0, none⟩), .int .i64 n] w (Ref z0 g (.slice none 0 0) w) := by
  obtain ⟨_, A, c, h1, _⟩ := h
  refine (take_no g l.length c A n bad w h1 hn).mono ?_
  rintro e w' ⟨he, h1, hg⟩
  exact ⟨he, rp_refused z0 h1, hg⟩
theorem refuse_rp (z0 g : Nat) (l : List Int) (bad : Bool) (w : World) (h : Rp z0 g l bad w) :
    Calls Tryd.prog 77 #[.pointer (some ⟨g, 0, none⟩)] w (Ref z0 g (.tuple #[]) w) := by
  obtain ⟨_, A, c, h1, _⟩ := h
  refine (refuse_any g l.length c A bad w h1).mono ?_
  rintro e w' ⟨he, h1, hg⟩
  exact ⟨he, rp_refused z0 h1, hg⟩
theorem numberIn_nil (w : World) : Calls Tryd.prog 75 #[.slice none 0 0] w fun e w' => e = .returned (.int .i64 0) ∧ w = w' := by
  refine (numberIn_any 0 0 0 none [] w (Has.nil _ _ _ _) (fun i hi => by cases hi) rfl (by omega)).mono ?_
  rintro e w' ⟨he, hw⟩
  exact ⟨he.trans (congrArg (fun x => Ending.returned (.int .i64 x)) (wrap_small (v := 0) (by decide))), hw⟩

set_option maxHeartbeats 1000000 in
theorem rnumber_yes (z0 g : Nat) (l : List Int) (lo hi : Int) (w : World) (h : Rp z0 g l false w) (hf : Fit 8 l) (hk : rdOk l false lo hi) :
    Calls Tryd.prog 72 #[.pointer (some ⟨g, 0, none⟩), .int .i64 lo, .int .i64 hi] w fun e w' => e = .returned (.int .i64 (rdX l)) ∧ Rp z0 g (l.drop 8) false w' ∧ w.grownBy w' (some g) := by
  obtain ⟨_, h8, x0, x1⟩ := hk
  have H := Lib.hid h
  have HF := Lib.hid hf
  have HX : Hid (wrap64 (valTo (l.take 8) 8 : Nat) = rdX l) := by show wrap64 _ = _; rw [val_take l 8 8 (Nat.le_refl _)]; rfl
  have d1 : decide (rdX l < lo) = false := by rw [decide_eq_false_iff_not]; omega
  have d2 : decide (hi < rdX l) = false := by rw [decide_eq_false_iff_not]; omega
  generalize rdX l = x at HX x0 x1 d1 d2 ⊢
  clear h hf
  go_enter Tryd.func72, Tryd.ntmps72
  go_wp2_with fail
  refine (take_rp z0 g 8 l _ H.out h8).mono ?_
  rintro e w1 ⟨A, c, rfl, hh, hA, hr, hg⟩
  have HH := Lib.hid hh
  have HR := Lib.hid hr
  have HG := Lib.hid hg
  clear hh hA hr hg
  go_wp2_with fail
  refine (numberIn_any g 8 c A (l.take 8) _ HH.out (fun i hi => by
    rw [List.length_take] at hi
    rw [getD_take l 8 i (by omega)]
    exact HF.out i (by omega)) (by rw [List.length_take]; omega) (by omega)).mono ?_
  rw [HX.out]
  rintro e w2 ⟨rfl, rfl⟩
  go_wp2
  go_ret
  exact ⟨rfl, HR.out, HG.out⟩
set_option maxHeartbeats 1000000 in
theorem rnumber_short (z0 g : Nat) (l : List Int) (bad : Bool) (lo hi : Int) (w : World) (h : Rp z0 g l bad w) (h8 : l.length < 8) :
    Calls Tryd.prog 72 #[.pointer (some ⟨g, 0, none⟩), .int .i64 lo, .int .i64 hi] w (Ref z0 g (.int .i64 0) w) := by
  have H := Lib.hid h
  clear h
  go_enter Tryd.func72, Tryd.ntmps72
  go_wp2_with fail
  refine (take_rp_no z0 g 8 l bad _ H.out (by omega)).mono ?_
  rintro e w1 ⟨rfl, hr, hg⟩
  have HR := Lib.hid hr
  have HG := Lib.hid hg
  clear hr hg
  go_wp2_with fail
  refine (numberIn_nil _).mono ?_
  rintro e w2 ⟨rfl, rfl⟩
  by_cases hx : 0 < lo ∨ hi < 0
  · rcases (show (0 < lo) ∨ (lo ≤ 0 ∧ hi < 0) by omega) with h1 | ⟨h1, h2⟩
    · go_wp2_with fail
      refine (refuse_rp z0 g [] true _ HR.out).mono ?_
      rintro e w3 ⟨rfl, hr, hg⟩
      have HR3 := Lib.hid hr
      have HG3 := Lib.hid hg
      clear hr hg
      go_wp2
      go_ret
      exact ⟨rfl, HR3.out, grown_two HG.out HG3.out⟩
    · go_wp2_with fail
      refine (refuse_rp z0 g [] true _ HR.out).mono ?_
      rintro e w3 ⟨rfl, hr, hg⟩
      have HR3 := Lib.hid hr
      have HG3 := Lib.hid hg
      clear hr hg
      go_wp2
      go_ret
      exact ⟨rfl, HR3.out, grown_two HG.out HG3.out⟩
  · have h1 : lo ≤ 0 := by omega
    have h2 : 0 ≤ hi := by omega
    go_wp2
    go_ret
    exact ⟨rfl, HR.out, HG.out⟩
set_option maxHeartbeats 1000000 in
theorem rnumber_out (z0 g : Nat) (l : List Int) (lo hi : Int) (w : World) (h : Rp z0 g l false w) (hf : Fit 8 l) (h8 : 8 ≤ l.length) (hx : ¬ (lo ≤ rdX l ∧ rdX l ≤ hi)) :
    Calls Tryd.prog 72 #[.pointer (some ⟨g, 0, none⟩), .int .i64 lo, .int .i64 hi] w (Ref z0 g (.int .i64 0) w) := by
  have H := Lib.hid h
  have HF := Lib.hid hf
  have HX : Hid (wrap64 (valTo (l.take 8) 8 : Nat) = rdX l) := by show wrap64 _ = _; rw [val_take l 8 8 (Nat.le_refl _)]; rfl
  have hx2 : (rdX l < lo) ∨ (lo ≤ rdX l ∧ hi < rdX l) := by omega
  generalize rdX l = x at HX hx2
  clear h hf hx
  go_enter Tryd.func72, Tryd.ntmps72
  go_wp2_with fail
  refine (take_rp z0 g 8 l _ H.out h8).mono ?_
  rintro e w1 ⟨A, c, rfl, hh, hA, hr, hg⟩
  have HH := Lib.hid hh
  have HR := Lib.hid hr
  have HG := Lib.hid hg
  clear hh hA hr hg
  go_wp2_with fail
  refine (numberIn_any g 8 c A (l.take 8) _ HH.out (fun i hi => by
    rw [List.length_take] at hi
    rw [getD_take l 8 i (by omega)]
    exact HF.out i (by omega)) (by rw [List.length_take]; omega) (by omega)).mono ?_
  rw [HX.out]
  rintro e w2 ⟨rfl, rfl⟩
  rcases hx2 with h1 | ⟨h1, h2⟩
  · go_wp2_with fail
    refine (refuse_rp z0 g _ false _ HR.out).mono ?_
    rintro e w3 ⟨rfl, hr, hg⟩
    have HR3 := Lib.hid hr
    have HG3 := Lib.hid hg
    clear hr hg
    go_wp2
    go_ret
    exact ⟨rfl, HR3.out, grown_two HG.out HG3.out⟩
  · have d1 : decide (x < lo) = false := by rw [decide_eq_false_iff_not]; omega
    have d2 : decide (hi < x) = true := by rw [decide_eq_true_iff]; omega
    go_wp2_with fail
    refine (refuse_rp z0 g _ false _ HR.out).mono ?_
    rintro e w3 ⟨rfl, hr, hg⟩
    have HR3 := Lib.hid hr
    have HG3 := Lib.hid hg
    clear hr hg
    go_wp2
    go_ret
    exact ⟨rfl, HR3.out, grown_two HG.out HG3.out⟩
theorem rnumber_no (z0 g : Nat) (l : List Int) (bad : Bool) (lo hi : Int) (w : World) (h : Rp z0 g l bad w) (hf : Fit 8 l) (hk : ¬ rdOk l bad lo hi) :
    Calls Tryd.prog 72 #[.pointer (some ⟨g, 0, none⟩), .int .i64 lo, .int .i64 hi] w (Ref z0 g (.int .i64 0) w) := by
  by_cases h8 : 8 ≤ l.length
  · cases bad with
    | true => have := (h.1 rfl).1; subst this; simp at h8
    | false => exact rnumber_out z0 g l lo hi w h hf h8 (fun q => hk ⟨rfl, h8, q⟩)
  · exact rnumber_short z0 g l bad lo hi w h (by omega)
end Go.Proofs.YtidpihpddkfhgaaDoor

/- Contracts: the landed reader: a part, a copy, what is asked. -/
namespace Go.Proofs.YtidpihpddkfhgaaDoor
open Go.RowKit Slices Go.Proofs.YtidpihpddkfhgaaDoor.Bit

set_option maxHeartbeats 1000000 in
theorem part_yes (z0 g : Nat) (l : List Int) (most : Int) (w : World) (h : Rp z0 g l false w) (hf : Fit 8 l) (hk : rdBOk l false most) :
    Calls Tryd.prog 73 #[.pointer (some ⟨g, 0, none⟩), .int .i64 most] w fun e w' => ∃ A c, e = .returned (.slice A (rdX l).toNat c) ∧ Has .u8 w' g A ((l.drop 8).take (rdX l).toNat) ∧ (A = none → (rdX l).toNat = 0 ∧ c = 0) ∧ Rp z0 g (l.drop (8 + (rdX l).toNat)) false w' ∧ w.grownBy w' (some g) := by
  obtain ⟨h0, hr, hle⟩ := hk
  obtain ⟨n, hn⟩ : ∃ n : Nat, rdX l = n := ⟨(rdX l).toNat, by have := hr.2.2.1; omega⟩
  have e0 : (rdX l).toNat = n := by rw [hn]; rfl
  rw [e0] at hle ⊢
  have h8 : 8 ≤ l.length := hr.2.1
  have H := Lib.hid h
  have HF := Lib.hid hf
  have HR := Lib.hid hr
  have HN := Lib.hid hn
  have HD : Hid ((l.drop 8).drop n = l.drop (8 + n)) := by show _ = _; rw [List.drop_drop]
  clear h hf hr hn e0
  go_enter Tryd.func73, Tryd.ntmps73
  go_wp2_with fail
  refine (rnumber_yes z0 g l 0 most _ H.out HF.out HR.out).mono ?_
  rw [HN.out]
  rintro e w1 ⟨rfl, hr, hg⟩
  have HR1 := Lib.hid hr
  have HG1 := Lib.hid hg
  clear hr hg
  go_wp2_with fail
  refine (take_rp z0 g n (l.drop 8) _ HR1.out (by rw [List.length_drop]; omega)).mono ?_
  rintro e w2 ⟨A, c, rfl, hh, hA, hr, hg⟩
  have HH := Lib.hid hh
  have HA := Lib.hid hA
  have HR2 := Lib.hid hr
  have HG2 := Lib.hid hg
  clear hh hA hr hg
  go_wp2
  go_ret
  exact ⟨A, c, rfl, HH.out, HA.out, by rw [← HD.out]; exact HR2.out, grown_two HG1.out HG2.out⟩
theorem take_zero (z0 g : Nat) (w : World) (h : Rp z0 g [] true w) :
    Calls Tryd.prog 76 #[.pointer (some ⟨g, 0, none⟩), .int .i64 0] w (Ref z0 g (.slice none 0 0) w) := by
  have h1 := (h.1 rfl).2
  refine (take_yes g 0 0 0 none true w h1 (Nat.le_refl _) (Nat.le_refl _) (fun _ => rfl)).mono ?_
  rintro e w' ⟨he, rfl⟩
  exact ⟨he, rp_refused z0 (h1.rest (A' := none) (n' := 0) (c' := 0)), grown_cell _ _ _ _⟩
set_option maxHeartbeats 1000000 in
theorem part_no (z0 g : Nat) (l : List Int) (bad : Bool) (most : Int) (w : World) (h : Rp z0 g l bad w) (hf : Fit 8 l) (hk : ¬ rdBOk l bad most) :
    Calls Tryd.prog 73 #[.pointer (some ⟨g, 0, none⟩), .int .i64 most] w (Ref z0 g (.slice none 0 0) w) := by
  have H := Lib.hid h
  have HF := Lib.hid hf
  clear h hf
  by_cases hr : rdOk l bad 0 most
  · have hb : bad = false := hr.1
    subst hb
    have h0 : 0 ≤ most := by have := hr.2.2; omega
    have hbig : l.length - 8 < (rdX l).toNat := by
      rcases Nat.lt_or_ge (l.length - 8) (rdX l).toNat with q | q
      · exact q
      · exact absurd ⟨h0, hr, q⟩ hk
    have x0 : 0 ≤ rdX l := hr.2.2.1
    have HR := Lib.hid hr
    obtain ⟨n, hn⟩ : ∃ n : Nat, rdX l = n := ⟨(rdX l).toNat, by omega⟩
    have hbig2 : l.length - 8 < n := by omega
    have HN := Lib.hid hn
    clear hr hbig x0 hn hk
    go_enter Tryd.func73, Tryd.ntmps73
    go_wp2_with fail
    refine (rnumber_yes z0 g l 0 most _ H.out HF.out HR.out).mono ?_
    rw [HN.out]
    rintro e w1 ⟨rfl, hr, hg⟩
    have HR1 := Lib.hid hr
    have HG1 := Lib.hid hg
    clear hr hg
    go_wp2_with fail
    refine (take_rp_no z0 g n (l.drop 8) false _ HR1.out (by rw [List.length_drop]; omega)).mono ?_
    rintro e w2 ⟨rfl, hr, hg⟩
    have HR2 := Lib.hid hr
    have HG2 := Lib.hid hg
    clear hr hg
    go_wp2
    go_ret
    exact ⟨rfl, HR2.out, grown_two HG1.out HG2.out⟩
  · have HR := Lib.hid hr
    clear hr hk
    go_enter Tryd.func73, Tryd.ntmps73
    go_wp2_with fail
    refine (rnumber_no z0 g l bad 0 most _ H.out HF.out HR.out).mono ?_
    rintro e w1 ⟨rfl, hr, hg⟩
    have HR1 := Lib.hid hr
    have HG1 := Lib.hid hg
    clear hr hg
    go_wp2_with fail
    refine (take_zero z0 g _ HR1.out).mono ?_
    rintro e w2 ⟨rfl, hr, hg⟩
    have HR2 := Lib.hid hr
    have HG2 := Lib.hid hg
    clear hr hg
    go_wp2
    go_ret
    exact ⟨rfl, HR2.out, grown_two HG1.out HG2.out⟩

set_option maxRecDepth 100000 in
theorem clone_nil (w : World) : Calls Tryd.prog 57 #[.slice none 0 0] w fun e w' => e = .returned (.slice none 0 0) ∧ w = w' := by
  have q := Lib.run_eql_slice_nil (P := Tryd.prog) w 22 5 none 0 0 0 0 Tryd.underlying22
  go_enter Tryd.func57, Tryd.ntmps57
  go_wp2
  go_ret
  exact ⟨rfl, rfl⟩
set_option maxRecDepth 100000 in
set_option maxHeartbeats 1000000 in
theorem clone_some (B : Nat) (a : Addr) (n c : Nat) (l : List Int) (w : World) (h : Has .u8 w B (some a) l) (hn : l.length = n) (hl : n ≤ 100000) :
    Calls Tryd.prog 57 #[.slice (some a) n c] w (Row w.heap.size w n l) := by
  obtain ⟨i0, hi0, hz0, hz1, hz2⟩ := info_parts Tryd.info5
  have H := Lib.hid h.cells
  have HN := Lib.hid hn
  have q := Lib.run_eql_slice_nil (P := Tryd.prog) w 22 5 (some a) n c 0 0 Tryd.underlying22
  clear h hn
  go_enter Tryd.func57, Tryd.ntmps57
  go_wp2_with (at_builtin; refine append_any _ rfl _ _ 22 rfl w.heap.size 5 i0 (.int .u8 0) 1 1 Tryd.underlying22 hi0 hz0 hz1 hz2 rfl (by decide) _ _ _ rfl (World.ownsRow_made w #[] 0 (Nat.le_refl _) (Nat.zero_le _) rfl) (some a) n c (ints .u8 l) rfl (by rw [ints_length, HN.out, Nat.mul_one]) (fun h => by cases h) (fun ad e j u hu => Lib.cell?_alloc_some _ (H.out ad e j u hu)) (ints_one _ _) (by unfold maxLen; omega) (by omega) (by simp) ?_; intro v2 w2 hown hgrow; have HO := Lib.hid hown; have HG := Lib.hid hgrow; clear hown hgrow)
  go_ret
  have hm : (w.alloc (.cells #[] 5)).ownsRow w.heap.size 5 1 (.slice (some ⟨w.heap.size, 0, none⟩) 0 0) 0 [] := World.ownsRow_made w #[] 0 (Nat.le_refl _) (Nat.zero_le _) rfl
  refine row_of ?_ (below_own ((Below.refl _ w).alloc (Nat.le_refl _) _) HG.out hm (by simp))
  have := HO.out
  simpa using this
/-- a copy of what may be none -/
theorem clone_any (B n c : Nat) (A : Option Addr) (l : List Int) (w : World) (h : Has .u8 w B A l) (hn : l.length = n) (hA : A = none → n = 0 ∧ c = 0) (hl : n ≤ 100000) :
    Calls Tryd.prog 57 #[.slice A n c] w (Row w.heap.size w n l) := by
  rcases A with _ | a
  · obtain ⟨rfl, rfl⟩ := hA rfl
    obtain rfl := List.eq_nil_of_length_eq_zero hn
    refine (clone_nil w).mono ?_
    rintro e w' ⟨he, rfl⟩
    exact ⟨none, 0, he, World.ownsRow_nil _ _ _ _, Below.refl _ _⟩
  · exact clone_some B a n c l w h hn hl

/-- a reader at block g, all of whose memory lies from block B on, below block U -/
def prL (B U g : Nat) (l : List Int) (bad : Bool) (w : World) : Prop := B ≤ g ∧ g < U ∧ U ≤ w.heap.size ∧ Rp B g l bad w
theorem prL_lt (B U g : Nat) (l : List Int) (bad : Bool) (w : World) (h : prL B U g l bad w) : B ≤ g ∧ g < U ∧ U ≤ w.heap.size := ⟨h.1, h.2.1, h.2.2.1⟩
theorem prL_keep (B U g : Nat) (l : List Int) (bad : Bool) (w w' : World) (h : prL B U g l bad w) (hs : w.heap.size ≤ w'.heap.size) (hk : ∀ i, B ≤ i → i < U → w'.heap[i]? = w.heap[i]?) : prL B U g l bad w' := by
  obtain ⟨h1, h2, h3, h4, A, c, h5, h6, h7, h8, h9⟩ := h
  have e := hk g h1 h2
  refine ⟨h1, h2, by omega, fun hb => ⟨(h4 hb).1, ?_⟩, A, c, ?_, fun k hl => ?_, h7, h8, h9⟩
  · unfold PS; rw [e]; exact (h4 hb).2
  · unfold PS; rw [e]; exact h5
  · obtain ⟨a, ea, hb, hc⟩ := h6 k hl
    refine ⟨a, ea, hb, ?_⟩
    have e2 := hk a.block (h9 a ea) (by omega)
    rw [← hc]
    unfold World.cell?
    rw [add_block, e2]
theorem prL_rp {B U g : Nat} {l l' : List Int} {bad bad' : Bool} {w w' : World} (h : prL B U g l bad w) (hr : Rp B g l' bad' w') (hg : w.grownBy w' (some g)) : prL B U g l' bad' w' :=
  ⟨h.1, h.2.1, Nat.le_trans h.2.2.1 hg.size, hr⟩

set_option maxHeartbeats 1000000 in
theorem new_any (B n c : Nat) (A : Option Addr) (b : List Int) (w : World) (h : Has .u8 w B A b) (hn : b.length = n) (hA : A = none → n = 0 ∧ c = 0) (hl : n ≤ 100000) :
    Calls Tryd.prog 67 #[.slice A n c] w fun e w' => ∃ g U, e = .returned (.pointer (some ⟨g, 0, none⟩)) ∧ prL w.heap.size U g b false w' ∧ Below w.heap.size w w' := by
  have H := Lib.hid h
  have HN := Lib.hid hn
  have HA := Lib.hid hA
  clear h hn hA
  go_enter Tryd.func67, Tryd.ntmps67
  go_wp2_with fail
  refine (clone_any B n c A b _ H.out HN.out HA.out hl).mono ?_
  rintro e w1 ⟨A1, c1, rfl, ho, hb⟩
  have HO := Lib.hid ho
  have HB := Lib.hid hb
  clear ho hb
  go_wp2
  go_ret
  have hs := HB.out.size
  refine ⟨w1.heap.size, w1.heap.size + 1, rfl, ⟨hs, Nat.lt_succ_self _, by simp, fun h => (by cases h), A1, c1, ?_, ?_, ?_, ?_, ?_⟩, HB.out.alloc hs _⟩
  · rw [HN.out]
    exact heap_alloc_new w1 _
  · exact (own_readn HN.out.symm HO.out).below ((Below.refl _ w1).alloc (Nat.le_refl _) _)
  · rw [HN.out]; exact own_cap HO.out
  · exact fun e => (own_none HO.out e).2
  · rintro a rfl
    exact (HO.out.lt a.block rfl).1
end Go.Proofs.YtidpihpddkfhgaaDoor

/- Contracts: the landed reader, as it is asked. -/
namespace Go.Proofs.YtidpihpddkfhgaaDoor
open Go.RowKit Slices Go.Proofs.YtidpihpddkfhgaaDoor.Bit

theorem fit_nil : Fit 8 ([] : List Int) := fun i hi => by cases hi
set_option maxHeartbeats 1000000 in
theorem num_yes (B U g : Nat) (l : List Int) (lo hi : Int) (w : World) (h : prL B U g l false w) (hf : Fit 8 l) (hk : rdOk l false lo hi) :
    Calls Tryd.prog 68 #[.pointer (some ⟨g, 0, none⟩), .int .i64 lo, .int .i64 hi] w fun e w' => e = .returned (.int .i64 (rdX l)) ∧ prL B U g (l.drop 8) false w' ∧ w.grownBy w' (some g) := by
  have H := Lib.hid h
  have HF := Lib.hid hf
  have HK := Lib.hid hk
  clear h hf hk
  go_enter Tryd.func68, Tryd.ntmps68
  go_wp2_with fail
  refine (rnumber_yes B g l lo hi _ H.out.2.2.2 HF.out HK.out).mono ?_
  rintro e w1 ⟨rfl, hr, hg⟩
  have hp := prL_rp H.out hr hg
  have HP := Lib.hid hp
  have HG := Lib.hid hg
  clear hr hg hp
  go_wp2
  go_ret
  exact ⟨rfl, HP.out, HG.out⟩
set_option maxHeartbeats 1000000 in
theorem num_no (B U g : Nat) (l : List Int) (bad : Bool) (lo hi : Int) (w : World) (h : prL B U g l bad w) (hf : Fit 8 l) (hk : ¬ rdOk l bad lo hi) :
    Calls Tryd.prog 68 #[.pointer (some ⟨g, 0, none⟩), .int .i64 lo, .int .i64 hi] w fun e w' => e = .returned (.int .i64 0) ∧ (∃ l', Fit 8 l' ∧ l'.length ≤ l.length ∧ prL B U g l' true w') ∧ w.grownBy w' (some g) := by
  have H := Lib.hid h
  have HF := Lib.hid hf
  have HK := Lib.hid hk
  clear h hf hk
  go_enter Tryd.func68, Tryd.ntmps68
  go_wp2_with fail
  refine (rnumber_no B g l bad lo hi _ H.out.2.2.2 HF.out HK.out).mono ?_
  rintro e w1 ⟨rfl, hr, hg⟩
  have hp := prL_rp H.out hr hg
  have HP := Lib.hid hp
  have HG := Lib.hid hg
  clear hr hg hp
  go_wp2
  go_ret
  exact ⟨rfl, ⟨[], fit_nil, Nat.zero_le _, HP.out⟩, HG.out⟩
set_option maxHeartbeats 1000000 in
theorem bytes_yes (B U g : Nat) (l : List Int) (most : Int) (w : World) (h : prL B U g l false w) (hf : Fit 8 l) (hl : l.length ≤ 10000) (hk : rdBOk l false most) :
    Calls Tryd.prog 70 #[.pointer (some ⟨g, 0, none⟩), .int .i64 most] w fun e w' => ∃ A' c', e = .returned (.slice A' (rdX l).toNat c') ∧ w'.ownsRow w.heap.size 5 1 (.slice A' (rdX l).toNat c') (rdX l).toNat (ints .u8 ((l.drop 8).take (rdX l).toNat)) ∧ prL B U g (l.drop (8 + (rdX l).toNat)) false w' ∧ w.grownBy w' (some g) := by
  have H := Lib.hid h
  have HF := Lib.hid hf
  have HK := Lib.hid hk
  have hle := hk.2.2
  have HT : Hid (((l.drop 8).take (rdX l).toNat).length = (rdX l).toNat) := by show List.length _ = _; rw [List.length_take, List.length_drop]; omega
  clear h hf hk
  go_enter Tryd.func70, Tryd.ntmps70
  go_wp2_with fail
  refine (part_yes B g l most _ H.out.2.2.2 HF.out HK.out).mono ?_
  rintro e w1 ⟨A, c, rfl, hh, hA, hr, hg⟩
  have hp := prL_rp H.out hr hg
  have HP := Lib.hid hp
  have HG := Lib.hid hg
  have HH := Lib.hid hh
  have HA := Lib.hid hA
  clear hr hg hp hh hA
  go_wp2_with fail
  refine (clone_any g (rdX l).toNat c A _ _ HH.out HT.out HA.out (by omega)).mono ?_
  rintro e w2 ⟨A1, c1, rfl, ho, hb⟩
  have HO := Lib.hid (own_down ho HG.out.size)
  have HB := Lib.hid hb
  clear ho hb
  go_wp2
  go_ret
  have hg2 : w1.grownBy w2 (some g) := ⟨HB.out.os, HB.out.tape, HB.out.output, HB.out.size, fun i hi _ => HB.out.block i hi⟩
  exact ⟨A1, c1, rfl, HO.out, prL_keep B U g _ _ _ _ HP.out HB.out.size (fun i _ hi => HB.out.block i (Nat.lt_of_lt_of_le hi HP.out.2.2.1)), grown_two HG.out hg2⟩
set_option maxHeartbeats 1000000 in
theorem bytes_no (B U g : Nat) (l : List Int) (bad : Bool) (most : Int) (w : World) (h : prL B U g l bad w) (hf : Fit 8 l) (hk : ¬ rdBOk l bad most) :
    Calls Tryd.prog 70 #[.pointer (some ⟨g, 0, none⟩), .int .i64 most] w fun e w' => e = .returned (.slice none 0 0) ∧ (∃ l', Fit 8 l' ∧ l'.length ≤ l.length ∧ prL B U g l' true w') ∧ w.grownBy w' (some g) := by
  have H := Lib.hid h
  have HF := Lib.hid hf
  have HK := Lib.hid hk
  clear h hf hk
  go_enter Tryd.func70, Tryd.ntmps70
  go_wp2_with fail
  refine (part_no B g l bad most _ H.out.2.2.2 HF.out HK.out).mono ?_
  rintro e w1 ⟨rfl, hr, hg⟩
  have hp := prL_rp H.out hr hg
  have HP := Lib.hid hp
  have HG := Lib.hid hg
  clear hr hg hp
  go_wp2_with fail
  refine (clone_nil _).mono ?_
  rintro e w2 ⟨rfl, rfl⟩
  go_wp2
  go_ret
  exact ⟨rfl, ⟨[], fit_nil, Nat.zero_le _, HP.out⟩, HG.out⟩
set_option maxHeartbeats 1000000 in
theorem text_yes (B U g : Nat) (l : List Int) (most : Int) (w : World) (h : prL B U g l false w) (hf : Fit 8 l) (hk : rdBOk l false most) :
    Calls Tryd.prog 69 #[.pointer (some ⟨g, 0, none⟩), .int .i64 most] w fun e w' => e = .returned (.string (strOfNums ((l.drop 8).take (rdX l).toNat))) ∧ prL B U g (l.drop (8 + (rdX l).toNat)) false w' ∧ w.grownBy w' (some g) := by
  have H := Lib.hid h
  have HF := Lib.hid hf
  have HK := Lib.hid hk
  have hle := hk.2.2
  have HT : Hid (((l.drop 8).take (rdX l).toNat).length = (rdX l).toNat) := by show List.length _ = _; rw [List.length_take, List.length_drop]; omega
  clear h hf hk
  go_enter Tryd.func69, Tryd.ntmps69
  go_wp2_with fail
  refine (part_yes B g l most _ H.out.2.2.2 HF.out HK.out).mono ?_
  rintro e w1 ⟨A, c, rfl, hh, hA, hr, hg⟩
  have HC := conv_has (n := (rdX l).toNat) (c := c) hh HT.out
  have hp := prL_rp H.out hr hg
  have HP := Lib.hid hp
  have HG := Lib.hid hg
  clear hr hg hp hh hA
  go_wp2
  go_ret
  exact ⟨rfl, HP.out, HG.out⟩
set_option maxHeartbeats 1000000 in
theorem text_no (B U g : Nat) (l : List Int) (bad : Bool) (most : Int) (w : World) (h : prL B U g l bad w) (hf : Fit 8 l) (hk : ¬ rdBOk l bad most) :
    Calls Tryd.prog 69 #[.pointer (some ⟨g, 0, none⟩), .int .i64 most] w fun e w' => e = .returned (.string (strOfNums [])) ∧ (∃ l', Fit 8 l' ∧ l'.length ≤ l.length ∧ prL B U g l' true w') ∧ w.grownBy w' (some g) := by
  have H := Lib.hid h
  have HF := Lib.hid hf
  have HK := Lib.hid hk
  clear h hf hk
  go_enter Tryd.func69, Tryd.ntmps69
  go_wp2_with fail
  refine (part_no B g l bad most _ H.out.2.2.2 HF.out HK.out).mono ?_
  rintro e w1 ⟨rfl, hr, hg⟩
  have HC := conv_has (w := w1) (B := 0) (n := 0) (c := 0) (A := none) (l := []) (Has.nil _ _ _ _) rfl
  have hp := prL_rp H.out hr hg
  have HP := Lib.hid hp
  have HG := Lib.hid hg
  clear hr hg hp
  go_wp2
  go_ret
  exact ⟨rfl, ⟨[], fit_nil, Nat.zero_le _, HP.out⟩, HG.out⟩

theorem unless_yes (c : Int) (x : Value) (w : World) :
    Calls Tryd.prog 40 #[.bool true, .int .i64 c, x] w fun e w' => e = .returned .nilIface ∧ w = w' := by
  go_enter Tryd.func40, Tryd.ntmps40
  go_wp2
  go_ret
  exact ⟨rfl, rfl⟩
theorem unless_no (c : Int) (x : ByteArray) (w : World) :
    Calls Tryd.prog 40 #[.bool false, .int .i64 c, .string x] w fun e w' => e = .returned (.iface 49 (.pointer (some ⟨w.heap.size, 0, none⟩))) ∧ w' = w.alloc (.cells #[.int .i64 c, .string x] 54) := by
  go_enter Tryd.func40, Tryd.ntmps40
  go_wp2
  go_ret
  exact ⟨rfl, rfl⟩
theorem wrap_nil (x : ByteArray) (w : World) :
    Calls Tryd.prog 25 #[.string x, .nilIface] w fun e w' => e = .returned .nilIface ∧ w = w' := by
  go_enter Tryd.func25, Tryd.ntmps25
  go_wp2
  go_ret
  exact ⟨rfl, rfl⟩
theorem wrap_one (x : ByteArray) (p : Addr) (w : World) :
    Calls Tryd.prog 25 #[.string x, .iface 49 (.pointer (some p))] w fun e w' => e = .returned (.iface 76 (.pointer (some ⟨w.heap.size, 0, none⟩))) ∧ w' = w.alloc (.cells #[.string x, .iface 49 (.pointer (some p))] 78) := by
  go_enter Tryd.func25, Tryd.ntmps25
  go_wp2
  go_ret
  exact ⟨rfl, rfl⟩
/-- an error whose number is c, not wrapped; of 0 none -/
def IsF (c : Int) (v : Value) (w : World) : Prop := (c = 0 ∧ v = .nilIface) ∨ (c ≠ 0 ∧ ∃ p : Addr, v = .iface 49 (.pointer (some p)) ∧ w.cell? p = some (.int .i64 c))
theorem isF_new {c : Int} {w : World} {x : Value} (h : c ≠ 0) : IsF c (.iface 49 (.pointer (some ⟨w.heap.size, 0, none⟩))) (w.alloc (.cells #[.int .i64 c, x] 54)) :=
  .inr ⟨h, _, rfl, by simp⟩
theorem wrap_any (x : ByteArray) (c : Int) (v : Value) (w : World) (h : IsF c v w) :
    Calls Tryd.prog 25 #[.string x, v] w fun e w' => ∃ v', e = .returned v' ∧ IsW c v' w' ∧ Below w.heap.size w w' := by
  rcases h with ⟨rfl, rfl⟩ | ⟨h0, p, rfl, hc⟩
  · exact (wrap_nil x w).mono fun e w' q => ⟨_, q.1, .inl ⟨rfl, rfl⟩, by rw [← q.2]; exact Below.refl _ _⟩
  · refine (wrap_one x p w).mono fun e w' ⟨q1, q2⟩ => ?_
    subst q2
    exact ⟨_, q1, .inr ⟨h0, _, p, rfl, by simp, cell_below hc ((Below.refl _ _).alloc (Nat.le_refl _) _)⟩, (Below.refl _ _).alloc (Nat.le_refl _) _⟩

theorem ended_none (w : World) : Calls Tryd.prog 74 #[.pointer none] w fun e w' => ∃ v, e = .returned v ∧ IsF 1 v w' ∧ Below w.heap.size w w' := by
  go_enter Tryd.func74, Tryd.ntmps74
  go_wp2_with fail
  refine (unless_no 1 _ _).mono ?_
  rintro e w1 ⟨rfl, rfl⟩
  go_wp2
  go_ret
  exact ⟨_, rfl, isF_new (by decide), (Below.refl _ _).alloc (Nat.le_refl _) _⟩
set_option maxHeartbeats 1000000 in
theorem ended_ps (g n c : Nat) (A : Option Addr) (bad : Bool) (w : World) (h : PS g A n c bad w) :
    Calls Tryd.prog 74 #[.pointer (some ⟨g, 0, none⟩)] w fun e w' => ∃ v, e = .returned v ∧ IsF (if bad = true ∨ 0 < n then 4 else 0) v w' ∧ Below w.heap.size w w' := by
  have c0 := h.c0
  have c1 := h.c1
  clear h
  cases bad with
  | true =>
    rw [if_pos (.inl rfl)]
    go_enter Tryd.func74, Tryd.ntmps74
    go_wp2_with fail
    refine (unless_yes 1 _ _).mono ?_
    rintro e w1 ⟨rfl, rfl⟩
    go_wp2_with fail
    refine (unless_no 4 _ _).mono ?_
    rintro e w1 ⟨rfl, rfl⟩
    go_wp2
    go_ret
    exact ⟨_, rfl, isF_new (by decide), (Below.refl _ _).alloc (Nat.le_refl _) _⟩
  | false =>
    by_cases hn : 0 < n
    · rw [if_pos (.inr hn)]
      have d : ((n : Int) == 0) = false := by rw [beq_eq_false_iff_ne]; omega
      go_enter Tryd.func74, Tryd.ntmps74
      go_wp2_with fail
      refine (unless_yes 1 _ _).mono ?_
      rintro e w1 ⟨rfl, rfl⟩
      go_wp2_with fail
      refine (unless_yes 4 _ _).mono ?_
      rintro e w1 ⟨rfl, rfl⟩
      go_wp2_with fail
      refine (unless_no 4 _ _).mono ?_
      rintro e w1 ⟨rfl, rfl⟩
      go_wp2
      go_ret
      exact ⟨_, rfl, isF_new (by decide), (Below.refl _ _).alloc (Nat.le_refl _) _⟩
    · rw [if_neg (by simp; omega)]
      obtain rfl : n = 0 := by omega
      go_enter Tryd.func74, Tryd.ntmps74
      go_wp2_with fail
      refine (unless_yes 1 _ _).mono ?_
      rintro e w1 ⟨rfl, rfl⟩
      go_wp2_with fail
      refine (unless_yes 4 _ _).mono ?_
      rintro e w1 ⟨rfl, rfl⟩
      go_wp2_with fail
      refine (unless_yes 4 _ _).mono ?_
      rintro e w1 ⟨rfl, rfl⟩
      go_wp2
      go_ret
      exact ⟨_, rfl, .inl ⟨rfl, rfl⟩, Below.refl _ _⟩
theorem end_of (r : Value) (c : Int) (w : World) (h : Calls Tryd.prog 74 #[r] w fun e w' => ∃ v, e = .returned v ∧ IsF c v w' ∧ Below w.heap.size w w') :
    Calls Tryd.prog 71 #[r] w fun e w' => ∃ v, e = .returned v ∧ IsW c v w' ∧ Below w.heap.size w w' := by
  have H := Lib.hid h
  clear h
  go_enter Tryd.func71, Tryd.ntmps71
  go_wp2_with fail
  refine H.out.mono ?_
  rintro e w1 ⟨v, rfl, hv, hb⟩
  have HV := Lib.hid hv
  have HB := Lib.hid hb
  clear hv hb
  go_wp2_with fail
  refine (wrap_any _ c v _ HV.out).mono ?_
  rintro e w2 ⟨v2, rfl, hv, hb⟩
  have HV2 := Lib.hid hv
  have HB2 := Lib.hid (below_next HB.out hb)
  clear hv hb
  go_wp2
  go_ret
  exact ⟨_, rfl, HV2.out, HB2.out⟩
end Go.Proofs.YtidpihpddkfhgaaDoor

