/- Contracts: the landed reader: a number, a part. -/
import Derived.Test.YtmegjjfgiibobaaDoorOe
namespace Go.Proofs.YtmegjjfgiibobaaDoor
open Go.RowKit Slices Go.Proofs.YtmegjjfgiibobaaDoor.Bit

/-- a reader at block g: its bytes lie in an elder block, from block z0 on; nothing is left once something was wrong -/
def Rp (z0 g : Nat) (l : List Int) (bad : Bool) (w : World) : Prop :=
  (bad = true → l = [] ∧ PS g none 0 0 true w) ∧ ∃ A c, PS g A l.length c bad w ∧ Has .u8 w g A l ∧ l.length ≤ c ∧ (A = none → c = 0) ∧ (∀ a, A = some a → z0 ≤ a.block)
theorem rp_refused {g : Nat} (z0 : Nat) {w' : World} (h : PS g none 0 0 true w') : Rp z0 g [] true w' :=
  ⟨fun _ => ⟨rfl, h⟩, none, 0, h, Has.nil _ _ _ _, Nat.le_refl _, fun _ => rfl, fun a e => by cases e⟩
theorem Rp.lt {z0 g : Nat} {l : List Int} {bad : Bool} {w : World} (h : Rp z0 g l bad w) : g < w.heap.size := by
  obtain ⟨_, A, c, h1, _⟩ := h
  exact h1.lt
/-- what becomes of a reader whose first bytes are taken -/
theorem rp_taken {z0 g c n : Nat} {A : Option Addr} {l : List Int} {bad : Bool} {w : World} (hb : bad = false) (h1 : PS g A l.length c bad w) (h2 : Has .u8 w g A l) (h3 : l.length ≤ c) (h4 : A = none → c = 0) (h5 : ∀ a, A = some a → z0 ≤ a.block) (hn : n ≤ l.length) :
    Rp z0 g (l.drop n) bad (w.setCell ⟨g, 0, none⟩ (.slice (restN A c n) (l.length - n) (c - n))) := by
  refine ⟨fun h => Bool.noConfusion (hb.symm.trans h), restN A c n, c - n, ?_, has_put (has_restN h2 hn h3), by rw [List.length_drop]; omega, fun e => by have := h4 (restN_none e); omega, fun a e => ?_⟩
  · rw [List.length_drop]
    exact h1.rest
  · obtain ⟨a', e', hb'⟩ := restN_block e
    rw [← hb']
    exact h5 a' e'
/-- the next n bytes -/
def Taken (z0 g n : Nat) (l : List Int) (w : World) (e : Ending) (w' : World) : Prop :=
  ∃ A c, e = .returned (.slice A n c) ∧ Has .u8 w' g A (l.take n) ∧ (A = none → n = 0 ∧ c = 0) ∧ Rp z0 g (l.drop n) false w' ∧ w.grownBy w' (some g)
theorem take_rp (z0 g n : Nat) (l : List Int) (w : World) (h : Rp z0 g l false w) (hn : n ≤ l.length) :
    Calls Tryd.prog 43 #[.pointer (some ⟨g, 0, none⟩), .int .i64 (n : Int)] w (Taken z0 g n l w) := by
  obtain ⟨_, A, c, h1, h2, h3, h4, h5⟩ := h
  refine (take_yes g l.length c n A false w h1 hn h3 h4).mono ?_
  rintro e w' ⟨he, rfl⟩
  exact ⟨A, c, he, has_put (h2.take n), fun e => by have := h4 e; omega, rp_taken rfl h1 h2 h3 h4 h5 hn, grown_cell _ _ _ _⟩
/-- what is refused -/
def Ref (z0 g : Nat) (v : Value) (w : World) (e : Ending) (w' : World) : Prop := e = .returned v ∧ Rp z0 g [] true w' ∧ w.grownBy w' (some g)
theorem take_rp_no (z0 g : Nat) (n : Int) (l : List Int) (bad : Bool) (w : World) (h : Rp z0 g l bad w) (hn : (l.length : Int) < n) :
    Calls Tryd.prog 43 #[.pointer (some ⟨g, 0, none⟩), .int .i64 n] w (Ref z0 g (.slice none 0 0) w) := by
  obtain ⟨_, A, c, h1, _⟩ := h
  refine (take_no g l.length c A n bad w h1 hn).mono ?_
  rintro e w' ⟨he, h1, hg⟩
  exact ⟨he, rp_refused z0 h1, hg⟩
theorem refuse_rp (z0 g : Nat) (l : List Int) (bad : Bool) (w : World) (h : Rp z0 g l bad w) :
    Calls Tryd.prog 44 #[.pointer (some ⟨g, 0, none⟩)] w (Ref z0 g (.tuple #[]) w) := by
  obtain ⟨_, A, c, h1, _⟩ := h
  refine (refuse_any g l.length c A bad w h1).mono ?_
  rintro e w' ⟨he, h1, hg⟩
  exact ⟨he, rp_refused z0 h1, hg⟩
theorem numberIn_nil (w : World) : Calls Tryd.prog 42 #[.slice none 0 0] w fun e w' => e = .returned (.int .i64 0) ∧ w = w' := by
  refine (numberIn_any 0 0 0 none [] w (Has.nil _ _ _ _) (fun i hi => by cases hi) rfl (by omega)).mono ?_
  rintro e w' ⟨he, hw⟩
  exact ⟨he.trans (congrArg (fun x => Ending.returned (.int .i64 x)) (wrap_small (v := 0) (by decide))), hw⟩

set_option maxHeartbeats 1000000 in
theorem rnumber_yes (z0 g : Nat) (l : List Int) (lo hi : Int) (w : World) (h : Rp z0 g l false w) (hf : Fit 8 l) (hk : rdOk l false lo hi) :
    Calls Tryd.prog 35 #[.pointer (some ⟨g, 0, none⟩), .int .i64 lo, .int .i64 hi] w fun e w' => e = .returned (.int .i64 (rdX l)) ∧ Rp z0 g (l.drop 8) false w' ∧ w.grownBy w' (some g) := by
  obtain ⟨_, h8, x0, x1⟩ := hk
  have H := Lib.hid h
  have HF := Lib.hid hf
  have HX : Hid (wrap64 (valTo (l.take 8) 8 : Nat) = rdX l) := by show wrap64 _ = _; rw [val_take l 8 8 (Nat.le_refl _)]; rfl
  have d1 : decide (rdX l < lo) = false := by rw [decide_eq_false_iff_not]; omega
  have d2 : decide (hi < rdX l) = false := by rw [decide_eq_false_iff_not]; omega
  generalize rdX l = x at HX x0 x1 d1 d2 ⊢
  clear h hf
  go_enter Tryd.func35, Tryd.ntmps35
  go_wp2_with fail
  refine (take_rp z0 g 8 l _ H.out h8).mono ?_
  rintro e w1 ⟨A, c, rfl, hh, hA, hr, hg⟩
  have HH := Lib.hid hh
  have HR := Lib.hid hr
  have HG := Lib.hid hg
  clear hh hA hr hg
  go_wp2_with fail
  refine (numberIn_any g 8 c A (l.take 8) _ HH.out (fun i hi => by
    rw [List.length_take] at hi
    rw [getD_take l 8 i (by omega)]
    exact HF.out i (by omega)) (by rw [List.length_take]; omega) (by omega)).mono ?_
  rw [HX.out]
  rintro e w2 ⟨rfl, rfl⟩
  go_wp2
  go_ret
  exact ⟨rfl, HR.out, HG.out⟩
set_option maxHeartbeats 1000000 in
theorem rnumber_short (z0 g : Nat) (l : List Int) (bad : Bool) (lo hi : Int) (w : World) (h : Rp z0 g l bad w) (h8 : l.length < 8) :
    Calls Tryd.prog 35 #[.pointer (some ⟨g, 0, none⟩), .int .i64 lo, .int .i64 hi] w (Ref z0 g (.int .i64 0) w) := by
  have H := Lib.hid h
  clear h
  go_enter Tryd.func35, Tryd.ntmps35
  go_wp2_with fail
  refine (take_rp_no z0 g 8 l bad _ H.out (by omega)).mono ?_
  rintro e w1 ⟨rfl, hr, hg⟩
  have HR := Lib.hid hr
  have HG := Lib.hid hg
  clear hr hg
  go_wp2_with fail
  refine (numberIn_nil _).mono ?_
  rintro e w2 ⟨rfl, rfl⟩
  by_cases hx : 0 < lo ∨ hi < 0
  · rcases (show (0 < lo) ∨ (lo ≤ 0 ∧ hi < 0) by omega) with h1 | ⟨h1, h2⟩
    · go_wp2_with fail
      refine (refuse_rp z0 g [] true _ HR.out).mono ?_
      rintro e w3 ⟨rfl, hr, hg⟩
      have HR3 := Lib.hid hr
      have HG3 := Lib.hid hg
      clear hr hg
      go_wp2
      go_ret
      exact ⟨rfl, HR3.out, grown_two HG.out HG3.out⟩
    · go_wp2_with fail
      refine (refuse_rp z0 g [] true _ HR.out).mono ?_
      rintro e w3 ⟨rfl, hr, hg⟩
      have HR3 := Lib.hid hr
      have HG3 := Lib.hid hg
      clear hr hg
      go_wp2
      go_ret
      exact ⟨rfl, HR3.out, grown_two HG.out HG3.out⟩
  · have h1 : lo ≤ 0 := by omega
    have h2 : 0 ≤ hi := by omega
    go_wp2
    go_ret
    exact ⟨rfl, HR.out, HG.out⟩
set_option maxHeartbeats 1000000 in
theorem rnumber_out (z0 g : Nat) (l : List Int) (lo hi : Int) (w : World) (h : Rp z0 g l false w) (hf : Fit 8 l) (h8 : 8 ≤ l.length) (hx : ¬ (lo ≤ rdX l ∧ rdX l ≤ hi)) :
    Calls Tryd.prog 35 #[.pointer (some ⟨g, 0, none⟩), .int .i64 lo, .int .i64 hi] w (Ref z0 g (.int .i64 0) w) := by
  have H := Lib.hid h
  have HF := Lib.hid hf
  have HX : Hid (wrap64 (valTo (l.take 8) 8 : Nat) = rdX l) := by show wrap64 _ = _; rw [val_take l 8 8 (Nat.le_refl _)]; rfl
  have hx2 : (rdX l < lo) ∨ (lo ≤ rdX l ∧ hi < rdX l) := by omega
  generalize rdX l = x at HX hx2
  clear h hf hx
  go_enter Tryd.func35, Tryd.ntmps35
  go_wp2_with fail
  refine (take_rp z0 g 8 l _ H.out h8).mono ?_
  rintro e w1 ⟨A, c, rfl, hh, hA, hr, hg⟩
  have HH := Lib.hid hh
  have HR := Lib.hid hr
  have HG := Lib.hid hg
  clear hh hA hr hg
  go_wp2_with fail
  refine (numberIn_any g 8 c A (l.take 8) _ HH.out (fun i hi => by
    rw [List.length_take] at hi
    rw [getD_take l 8 i (by omega)]
    exact HF.out i (by omega)) (by rw [List.length_take]; omega) (by omega)).mono ?_
  rw [HX.out]
  rintro e w2 ⟨rfl, rfl⟩
  rcases hx2 with h1 | ⟨h1, h2⟩
  · go_wp2_with fail
    refine (refuse_rp z0 g _ false _ HR.out).mono ?_
    rintro e w3 ⟨rfl, hr, hg⟩
    have HR3 := Lib.hid hr
    have HG3 := Lib.hid hg
    clear hr hg
    go_wp2
    go_ret
    exact ⟨rfl, HR3.out, grown_two HG.out HG3.out⟩
  · have d1 : decide (x < lo) = false := by rw [decide_eq_false_iff_not]; omega
    have d2 : decide (hi < x) = true := by rw [decide_eq_true_iff]; omega
    go_wp2_with fail
    refine (refuse_rp z0 g _ false _ HR.out).mono ?_
    rintro e w3 ⟨rfl, hr, hg⟩
    have HR3 := Lib.hid hr
    have HG3 := Lib.hid hg
    clear hr hg
    go_wp2
    go_ret
    exact ⟨rfl, HR3.out, grown_two HG.out HG3.out⟩
theorem rnumber_no (z0 g : Nat) (l : List Int) (bad : Bool) (lo hi : Int) (w : World) (h : Rp z0 g l bad w) (hf : Fit 8 l) (hk : ¬ rdOk l bad lo hi) :
    Calls Tryd.prog 35 #[.pointer (some ⟨g, 0, none⟩), .int .i64 lo, .int .i64 hi] w (Ref z0 g (.int .i64 0) w) := by
  by_cases h8 : 8 ≤ l.length
  · cases bad with
    | true => have := (h.1 rfl).1; subst this; simp at h8
    | false => exact rnumber_out z0 g l lo hi w h hf h8 (fun q => hk ⟨rfl, h8, q⟩)
  · exact rnumber_short z0 g l bad lo hi w h (by omega)
end Go.Proofs.YtmegjjfgiibobaaDoor
