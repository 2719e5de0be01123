/- Contract: the document's own reader, by what is left and whether something was wrong. -/
import Derived.Test.YtidpihpddkfhgaaDoorCd
namespace Go.Proofs.YtidpihpddkfhgaaDoor
open Go.RowKit Slices Go.Proofs.YtidpihpddkfhgaaDoor.Bit

/-- a reader at block g: its bytes lie in an elder block -/
def Rd (z0 g : Nat) (l : List Int) (bad : Bool) (w : World) : Prop := ∃ A c, RS g A l.length c bad w ∧ Has .u8 w g A l ∧ l.length ≤ c ∧ (A = none → c = 0) ∧ (∀ a, A = some a → z0 ≤ a.block)
theorem RS.lt {g n c : Nat} {A : Option Addr} {bad : Bool} {w : World} (h : RS g A n c bad w) : g < w.heap.size := (Array.getElem?_eq_some_iff.1 h).1
theorem has_put {w : World} {g j : Nat} {A : Option Addr} {l : List Int} {u : Value} (h : Has .u8 w g A l) : Has .u8 (w.setCell ⟨g, j, none⟩ u) g A l := fun k hk => by
  obtain ⟨a, e, hb, hc⟩ := h k hk
  refine ⟨a, e, hb, ?_⟩
  have hg := (grown_cell w g j u).block (a.add k).block
  have hlt : (a.add k).block < w.heap.size := by
    rcases Nat.lt_or_ge (a.add k).block w.heap.size with q | q
    · exact q
    · simp [World.cell?, Array.getElem?_eq_none q] at hc
  have e2 := hg hlt (fun e => by
    injection e with e
    rw [add_block] at e
    omega)
  have : (w.setCell ⟨g, j, none⟩ u).cell? (a.add k) = w.cell? (a.add k) := by
    unfold World.cell?
    rw [e2]
  rw [this]
  exact hc
theorem add_add14 (a : Addr) (n m : Nat) : (a.add n).add m = a.add (n + m) := by
  obtain ⟨b, o, s⟩ := a
  unfold Addr.add
  by_cases h1 : n = 0
  · subst h1; simp
  · by_cases h2 : m = 0
    · subst h2; simp [h1]
    · simp [h1, h2]
      omega
theorem has_rest {w : World} {B c : Nat} {A : Option Addr} {l : List Int} (h : Has .u8 w B A l) (h8 : 8 ≤ l.length) (hc : l.length ≤ c) : Has .u8 w B (restA A c) (l.drop 8) := fun k hk => by
  rw [List.length_drop] at hk
  obtain ⟨a, e, hb, hcell⟩ := h (8 + k) (by omega)
  subst e
  have e1 : restA (some a) c = some (a.add 8) := if_neg (by omega)
  rw [e1]
  refine ⟨_, rfl, by rw [add_block]; exact hb, ?_⟩
  rw [add_add14, List.getD_eq_getElem?_getD, List.getElem?_drop, ← List.getD_eq_getElem?_getD]
  exact hcell
/-- the next number, as the chapter says -/
def rdX (l : List Int) : Int := wrap64 (valTo l 8 : Nat)
def rdOk (l : List Int) (bad : Bool) (lo hi : Int) : Prop := bad = false ∧ 8 ≤ l.length ∧ lo ≤ rdX l ∧ rdX l ≤ hi
instance (l : List Int) (bad : Bool) (lo hi : Int) : Decidable (rdOk l bad lo hi) := by unfold rdOk; infer_instance
/-- the same, with a place -/
def RdS (z0 g : Nat) (l : List Int) (bad : Bool) (w : World) : Prop := ∃ a c, RS g (some a) l.length c bad w ∧ Has .u8 w g (some a) l ∧ l.length ≤ c ∧ z0 ≤ a.block
theorem RdS.rd {z0 g : Nat} {l : List Int} {bad : Bool} {w : World} (h : RdS z0 g l bad w) : Rd z0 g l bad w := by
  obtain ⟨a, c, h1, h2, h3⟩ := h
  exact ⟨some a, c, h1, h2, h3.1, (fun e => by cases e), fun b e => by injection e with e; rw [← e]; exact h3.2⟩
theorem refRNum_yesS (z0 g : Nat) (l : List Int) (lo hi : Int) (w : World) (h : Rd z0 g l false w) (hf : Fit 8 l) (hk : rdOk l false lo hi) :
    Calls Tryd.prog 60 #[.pointer (some ⟨g, 0, none⟩), .int .i64 lo, .int .i64 hi] w fun e w' => e = .returned (.int .i64 (rdX l)) ∧ RdS z0 g (l.drop 8) false w' ∧ w.grownBy w' (some g) := by
  obtain ⟨A, c, h1, h2, h3⟩ := h
  refine (refRNum_long g c A l lo hi w h1 (h2.mono (Nat.le_of_lt h1.lt)) hf hk.2.1 h3.1 hk.2.2).mono ?_
  rintro e w' ⟨he, rfl⟩
  obtain ⟨a, ea, _⟩ := h2 0 (by have := hk.2.1; omega)
  subst ea
  have hr := has_rest h2 hk.2.1 h3.1
  obtain ⟨a', ea, hab⟩ : ∃ a', restA (some a) c = some a' ∧ a'.block = a.block := by
    unfold restA
    split
    · exact ⟨_, rfl, rfl⟩
    · exact ⟨_, rfl, add_block a 8⟩
  rw [ea] at hr ⊢
  refine ⟨he, ⟨a', c - 8, ?_, has_put hr, by rw [List.length_drop]; have := h3.1; omega, by rw [hab]; exact h3.2.2 a rfl⟩, grown_cell _ _ _ _⟩
  rw [List.length_drop]
  exact h1.rest
theorem refRNum_yes (z0 g : Nat) (l : List Int) (lo hi : Int) (w : World) (h : Rd z0 g l false w) (hf : Fit 8 l) (hk : rdOk l false lo hi) :
    Calls Tryd.prog 60 #[.pointer (some ⟨g, 0, none⟩), .int .i64 lo, .int .i64 hi] w fun e w' => e = .returned (.int .i64 (rdX l)) ∧ Rd z0 g (l.drop 8) false w' ∧ w.grownBy w' (some g) :=
  (refRNum_yesS z0 g l lo hi w h hf hk).mono fun _ _ q => ⟨q.1, q.2.1.rd, q.2.2⟩
theorem refRNum_no (z0 g : Nat) (l : List Int) (bad : Bool) (lo hi : Int) (w : World) (h : Rd z0 g l bad w) (hf : Fit 8 l) (hk : ¬ rdOk l bad lo hi) :
    Calls Tryd.prog 60 #[.pointer (some ⟨g, 0, none⟩), .int .i64 lo, .int .i64 hi] w fun e w' => e = .returned (.int .i64 0) ∧ Rd z0 g l true w' ∧ w.grownBy w' (some g) := by
  obtain ⟨A, c, h1, h2, h3⟩ := h
  have hp : ∀ e w', RdBad g w e w' → e = .returned (.int .i64 0) ∧ Rd z0 g l true w' ∧ w.grownBy w' (some g) := by
    rintro e w' ⟨he, rfl⟩
    exact ⟨he, ⟨A, c, h1.wrong, has_put h2, h3⟩, grown_cell _ _ _ _⟩
  cases bad with
  | true => exact (refRNum_bad g _ c A lo hi w h1).mono hp
  | false =>
    by_cases h8 : 8 ≤ l.length
    · exact (refRNum_out g c A l lo hi w h1 (h2.mono (Nat.le_of_lt h1.lt)) hf h8 (fun q => hk ⟨rfl, h8, q⟩)).mono hp
    · exact (refRNum_short g _ c A lo hi w h1 (by omega)).mono hp
theorem refEnd_rd (z0 g : Nat) (l : List Int) (bad : Bool) (w : World) (h : Rd z0 g l bad w) :
    Calls Tryd.prog 39 #[.pointer (some ⟨g, 0, none⟩)] w fun e w' => e = .returned (.int .i64 (if bad = true ∨ 0 < l.length then 4 else 0)) ∧ w = w' := by
  obtain ⟨A, c, h1, _, _⟩ := h
  exact refEnd_any g _ c A bad w h1
end Go.Proofs.YtidpihpddkfhgaaDoor
