/- Contract: the document's own way over. -/
import Derived.Test.YtmjcgkddjgplkaaDoorC
namespace Go.Proofs.YtmjcgkddjgplkaaDoor
open Go.RowKit Slices Go.Proofs.YtmjcgkddjgplkaaDoor.Ring

/-- the slice at g, of N numbers, is a poly like v -/
def Holds (w : World) (N g c : Nat) (v : V) (wr : World) : Prop :=
  ∃ l : List Int, wr.ownsRow w.heap.size 3 1 (.slice (some ⟨g, 0, none⟩) N c) N (ints l) ∧ IsPoly l ∧ Same (vec l) v ∧ Below w.heap.size w wr

theorem Holds.same {w wr : World} {N g c : Nat} {v v' : V} (h : Holds w N g c v wr) (hs : Same v v') : Holds w N g c v' wr := by
  obtain ⟨l, a, b, d, e⟩ := h
  exact ⟨l, a, b, d.trans hs, e⟩
theorem Holds.gives {w wr : World} {N g c : Nat} {v : V} (h : Holds w N g c v wr) : Gives w (toL v) (.returned (.slice (some ⟨g, 0, none⟩) N c)) wr := by
  obtain ⟨l, a, b, d, e⟩ := h
  have hl := own_len a
  have := poly_eq b d
  subst this
  subst hl
  exact ⟨g, c, rfl, a, e⟩

/-- what stands at the head of the outer loop: m steps are done -/
def OutRel (w : World) (N g c : Nat) (f : V) (L I : Nat) (wr : World) : Prop := ∃ m, m ≤ 7 ∧ L = 2 ^ (7 - m) ∧ I = 2 ^ m ∧ Holds w N g c (lv m f) wr
/-- what stands at the head of the loop over the blocks: those ahead of S are done -/
def MidRel (w : World) (N g c : Nat) (F : V) (L I0 S I : Nat) (wr : World) : Prop := ∃ b, S = 2 * L * b ∧ I = I0 + b ∧ b ≤ I0 ∧ Holds w N g c (Mix L F S S) wr

theorem out_facts {w wr : World} {N g c : Nat} {f : V} {L I : Nat} (h : OutRel w N g c f L I wr) :
    1 ≤ L ∧ L ≤ 128 ∧ 1 ≤ I ∧ I ≤ 128 ∧ (2 ≤ L → ∃ F, Holds w N g c F wr ∧ I = 128 / L ∧ 2 * L * I = 256 ∧ ∀ wr', Holds w N g c (overL L F) wr' → OutRel w N g c f (L / 2) (2 * I) wr') ∧ (L < 2 → Holds w N g c (vOver f) wr) := by
  obtain ⟨m, hm, rfl, rfl, hh⟩ := h
  have hm' : m = 0 ∨ m = 1 ∨ m = 2 ∨ m = 3 ∨ m = 4 ∨ m = 5 ∨ m = 6 ∨ m = 7 := by omega
  have e1 : 1 ≤ 2 ^ (7 - m) ∧ 2 ^ (7 - m) ≤ 128 ∧ 1 ≤ 2 ^ m ∧ 2 ^ m ≤ 128 := by rcases hm' with rfl | rfl | rfl | rfl | rfl | rfl | rfl | rfl <;> decide
  have e2 : 2 ≤ 2 ^ (7 - m) → m ≤ 6 ∧ 128 / 2 ^ m = 2 ^ (7 - m) ∧ 2 ^ m = 128 / 2 ^ (7 - m) ∧ 2 * 2 ^ (7 - m) * 2 ^ m = 256 ∧ 2 ^ (7 - m) / 2 = 2 ^ (7 - (m + 1)) ∧ 2 * 2 ^ m = 2 ^ (m + 1) := by
    rcases hm' with rfl | rfl | rfl | rfl | rfl | rfl | rfl | rfl <;> decide
  have e3 : 2 ^ (7 - m) < 2 → m = 7 := by rcases hm' with rfl | rfl | rfl | rfl | rfl | rfl | rfl | rfl <;> decide
  refine ⟨e1.1, e1.2.1, e1.2.2.1, e1.2.2.2, fun h2 => ?_, fun h2 => ?_⟩
  · obtain ⟨a1, a2, a3, a4, a5, a6⟩ := e2 h2
    refine ⟨_, hh, a3, a4, fun wr' hw => ⟨m + 1, by omega, a5, a6, ?_⟩⟩
    show Holds w N g c (overL (128 / 2 ^ m) (lv m f)) wr'
    rw [a2]; exact hw
  · have := e3 h2
    subst this
    exact hh

theorem mid_facts {w wr : World} {N g c : Nat} {F : V} {L I0 S I : Nat} (h : MidRel w N g c F L I0 S I wr) (hL : 2 ≤ L) (hI : 2 * L * I0 = 256) :
    S ≤ 256 ∧ I ≤ 2 * I0 ∧ I0 ≤ I ∧ (S < 256 → S + 2 * L ≤ 256) ∧ (256 ≤ S → Holds w N g c (overL L F) wr ∧ I = 2 * I0) := by
  obtain ⟨b, rfl, rfl, hb, hh⟩ := h
  have h1 : 2 * L * b ≤ 256 := by rw [← hI]; exact Nat.mul_le_mul_left _ hb
  refine ⟨h1, by omega, by omega, fun hs => ?_, fun hs => ?_⟩
  · have : b < I0 := by
      rcases Nat.lt_or_ge b I0 with h | h
      · exact h
      · have : 2 * L * I0 ≤ 2 * L * b := Nat.mul_le_mul_left _ h
        omega
    have : 2 * L * (b + 1) ≤ 2 * L * I0 := Nat.mul_le_mul_left _ this
    rw [Nat.mul_add] at this
    omega
  · have : b = I0 := by
      rcases Nat.lt_or_ge b I0 with h | h
      · have : 2 * L * (b + 1) ≤ 2 * L * I0 := Nat.mul_le_mul_left _ h
        rw [Nat.mul_add] at this
        omega
      · omega
    exact ⟨hh.same (mix_end L F _ hs), by omega⟩

theorem mid_next {w wr wr' : World} {N g c : Nat} {F : V} {L I0 S I : Nat} (h : MidRel w N g c F L I0 S I wr) (hs : S < 256) (hL : 2 ≤ L) (hI : 2 * L * I0 = 256) (hh : Holds w N g c (Mix L F S (S + L)) wr') :
    MidRel w N g c F L I0 (S + 2 * L) (I + 1) wr' := by
  have hf := (mid_facts h hL hI).2.2.2.1 hs
  obtain ⟨b, rfl, rfl, hb, _⟩ := h
  rw [mix_block] at hh
  refine ⟨b + 1, by rw [Nat.mul_add]; omega, by omega, ?_, hh⟩
  rcases Nat.lt_or_ge b I0 with h | h
  · exact h
  · have : 2 * L * I0 ≤ 2 * L * b := Nat.mul_le_mul_left _ h
    omega

/-- a pair, where the world is written -/
theorem pair_next {w wr : World} {N g c : Nat} {F : V} {L I0 S I J : Nat} {l : List Int} (hm : MidRel w N g c F L I0 S I wr) (hI : I0 = 128 / L) (hL : 2 ≤ L) (h0 : S ≤ J) (h1 : J < S + L) (h2 : J + L < 256)
    {wi : World} (hown : wi.ownsRow w.heap.size 3 1 (.slice (some ⟨g, 0, none⟩) N c) N (ints l)) (hp : IsPoly l) (hs : Same (vec l) (Mix L F S J)) (hb : Below w.heap.size w wi)
    {z u v : Int} (hz : phi z = zr I) (hu : phi u = phi (l.getD J 0) - phi z * phi (l.getD (J + L) 0)) (hv : phi v = phi (l.getD J 0) + phi z * phi (l.getD (J + L) 0)) (ou : okN u) (ov : okN v) :
    Holds w N g c (Mix L F S (J + 1)) ((wi.setCell ⟨g, J + L, none⟩ (.int .i64 u)).setCell ⟨g, J, none⟩ (.int .i64 v)) := by
  obtain ⟨b, rfl, rfl, _, _⟩ := hm
  subst hI
  obtain ⟨p1, p2⟩ := pair_step (by omega) h0 h1 h2 hp hs hz hu hv ou ov
  exact ⟨_, own_set (own_set hown _ _) _ _, p1, p2, (hb.setCell (own_block hown).1 _).setCell (own_block hown).1 _⟩
end Go.Proofs.YtmjcgkddjgplkaaDoor
