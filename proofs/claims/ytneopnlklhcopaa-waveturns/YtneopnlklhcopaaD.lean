/- Contract: the document's own way over. -/
import Derived.Test.YtneopnlklhcopaaC
import Derived.Test.YtneopnlklhcopaaPolyJ
namespace Go.Proofs.Ytneopnlklhcopaa
open Go.RowKit Slices Go.Proofs.Ytneopnlklhcopaa.Ring

/-- the slice at g, of N numbers, is a poly like v -/
def Holds (w : World) (N g c : Nat) (v : V) (wr : World) : Prop :=
  ∃ l : List Int, wr.ownsRow w.heap.size 3 1 (.slice (some ⟨g, 0, none⟩) N c) N (ints l) ∧ IsPoly l ∧ Same (vec l) v ∧ Below w.heap.size w wr

theorem Holds.same {w wr : World} {N g c : Nat} {v v' : V} (h : Holds w N g c v wr) (hs : Same v v') : Holds w N g c v' wr := by
  obtain ⟨l, a, b, d, e⟩ := h
  exact ⟨l, a, b, d.trans hs, e⟩
theorem Holds.gives {w wr : World} {N g c : Nat} {v : V} (h : Holds w N g c v wr) : Gives w (toL v) (.returned (.slice (some ⟨g, 0, none⟩) N c)) wr := by
  obtain ⟨l, a, b, d, e⟩ := h
  have hl := own_len a
  have := poly_eq b d
  subst this
  subst hl
  exact ⟨g, c, rfl, a, e⟩

/-- what stands at the head of the outer loop: m steps are done -/
def OutRel (w : World) (N g c : Nat) (f : V) (L M : Nat) (wr : World) : Prop := ∃ m, m ≤ 8 ∧ L = 128 / 2 ^ m ∧ M + 1 = 2 ^ m ∧ Holds w N g c (lv m f) wr
/-- what stands at the head of the loop over the blocks: those ahead of S are done -/
def MidRel (w : World) (N g c : Nat) (F : V) (L I0 S M : Nat) (wr : World) : Prop := ∃ b, S = 2 * L * b ∧ M + 1 = I0 + b ∧ b ≤ I0 ∧ Holds w N g c (Mix L F S S) wr

theorem out_facts {w wr : World} {N g c : Nat} {f : V} {L M : Nat} (h : OutRel w N g c f L M wr) :
    L ≤ 128 ∧ M ≤ 255 ∧ (1 ≤ L → ∃ F I0, Holds w N g c F wr ∧ I0 ≤ 128 ∧ I0 = 128 / L ∧ M + 1 = I0 ∧ 2 * L * I0 = 256 ∧ ∀ wr', Holds w N g c (overL L F) wr' → OutRel w N g c f (L / 2) (2 * I0 - 1) wr') ∧ (L < 1 → Holds w N g c (vOver f) wr) := by
  obtain ⟨m, hm, rfl, hM, hh⟩ := h
  have hm' : m = 0 ∨ m = 1 ∨ m = 2 ∨ m = 3 ∨ m = 4 ∨ m = 5 ∨ m = 6 ∨ m = 7 ∨ m = 8 := by omega
  have e1 : 128 / 2 ^ m ≤ 128 ∧ 2 ^ m ≤ 256 := by rcases hm' with rfl | rfl | rfl | rfl | rfl | rfl | rfl | rfl | rfl <;> decide
  have e2 : 1 ≤ 128 / 2 ^ m → m ≤ 7 ∧ 2 ^ m ≤ 128 ∧ 2 ^ m = 128 / (128 / 2 ^ m) ∧ 2 * (128 / 2 ^ m) * 2 ^ m = 256 ∧ 128 / 2 ^ m / 2 = 128 / 2 ^ (m + 1) ∧ 2 * 2 ^ m = 2 ^ (m + 1) ∧ 1 ≤ 2 ^ m := by
    rcases hm' with rfl | rfl | rfl | rfl | rfl | rfl | rfl | rfl | rfl <;> decide
  have e3 : 128 / 2 ^ m < 1 → m = 8 := by rcases hm' with rfl | rfl | rfl | rfl | rfl | rfl | rfl | rfl | rfl <;> decide
  refine ⟨e1.1, by omega, fun h2 => ?_, fun h2 => ?_⟩
  · obtain ⟨a1, a2, a3, a4, a5, a6, a7⟩ := e2 h2
    exact ⟨_, 2 ^ m, hh, a2, a3, hM, a4, fun wr' hw => ⟨m + 1, by omega, a5, by rw [← a6]; omega, hw⟩⟩
  · have := e3 h2
    subst this
    exact hh

theorem mid_facts {w wr : World} {N g c : Nat} {F : V} {L I0 S M : Nat} (h : MidRel w N g c F L I0 S M wr) (hL : 1 ≤ L) (hI : 2 * L * I0 = 256) :
    S ≤ 256 ∧ M + 1 ≤ 2 * I0 ∧ (S < 256 → S + 2 * L ≤ 256) ∧ (256 ≤ S → Holds w N g c (overL L F) wr ∧ M = 2 * I0 - 1) := by
  obtain ⟨b, rfl, hM, hb, hh⟩ := h
  have h1 : 2 * L * b ≤ 256 := by rw [← hI]; exact Nat.mul_le_mul_left _ hb
  refine ⟨h1, by omega, fun hs => ?_, fun hs => ?_⟩
  · have : b < I0 := by
      rcases Nat.lt_or_ge b I0 with h | h
      · exact h
      · have : 2 * L * I0 ≤ 2 * L * b := Nat.mul_le_mul_left _ h
        omega
    have : 2 * L * (b + 1) ≤ 2 * L * I0 := Nat.mul_le_mul_left _ this
    rw [Nat.mul_add] at this
    omega
  · have : b = I0 := by
      rcases Nat.lt_or_ge b I0 with h | h
      · have : 2 * L * (b + 1) ≤ 2 * L * I0 := Nat.mul_le_mul_left _ h
        rw [Nat.mul_add] at this
        omega
      · omega
    exact ⟨hh.same (mix_end L F _ hs), by omega⟩

theorem mid_next {w wr wr' : World} {N g c : Nat} {F : V} {L I0 S M : Nat} (h : MidRel w N g c F L I0 S M wr) (hs : S < 256) (hI : 2 * L * I0 = 256) (hh : Holds w N g c (Mix L F S (S + L)) wr') :
    MidRel w N g c F L I0 (S + 2 * L) (M + 1) wr' := by
  obtain ⟨b, rfl, hM, hb, _⟩ := h
  rw [mix_block] at hh
  refine ⟨b + 1, by rw [Nat.mul_add]; omega, by omega, ?_, hh⟩
  rcases Nat.lt_or_ge b I0 with h | h
  · exact h
  · have : 2 * L * I0 ≤ 2 * L * b := Nat.mul_le_mul_left _ h
    omega

/-- a pair, where the world is written -/
theorem pair_next {w wr : World} {N g c : Nat} {F : V} {L I0 S M J : Nat} {l : List Int} (hm : MidRel w N g c F L I0 S M wr) (hI : I0 = 128 / L) (hL : 1 ≤ L) (h0 : S ≤ J) (h1 : J < S + L) (h2 : J + L < 256)
    {wi : World} (hown : wi.ownsRow w.heap.size 3 1 (.slice (some ⟨g, 0, none⟩) N c) N (ints l)) (hp : IsPoly l) (hs : Same (vec l) (Mix L F S J)) (hb : Below w.heap.size w wi)
    {z u v : Int} (hz : phi z = zr (M + 1)) (hu : phi u = phi (l.getD J 0) - phi z * phi (l.getD (J + L) 0)) (hv : phi v = phi (l.getD J 0) + phi z * phi (l.getD (J + L) 0)) (ou : okN u) (ov : okN v) :
    Holds w N g c (Mix L F S (J + 1)) ((wi.setCell ⟨g, J + L, none⟩ (.int .i64 u)).setCell ⟨g, J, none⟩ (.int .i64 v)) := by
  obtain ⟨b, rfl, hM, _, _⟩ := hm
  rw [hM] at hz
  subst hI
  obtain ⟨p1, p2⟩ := pair_step (by omega) h0 h1 h2 hp hs hz hu hv ou ov
  exact ⟨_, own_set (own_set hown _ _) _ _, p1, p2, (hb.setCell (own_block hown).1 _).setCell (own_block hown).1 _⟩

/-- what is at place k is told anew: the first k numbers are those of F, the others 0 -/
def upto (F : V) (k : Nat) : V := fun p => if p < k then F p else 0
theorem upto_start (F : V) : Same oV (upto F 0) := fun p _ => by unfold upto; rw [if_neg (by omega)]; rfl
theorem upto_end (F : V) : Same (upto F 256) F := fun p hp => by unfold upto; rw [if_pos hp]
theorem upto_next {w wr : World} {N g c k : Nat} {F : V} (h : Holds w N g c (upto F k) wr) (hk : k < 256) {x : Int} (ox : okN x) (hx : phi x = F k) :
    Holds w N g c (upto F (k + 1)) (wr.setCell ⟨g, k, none⟩ (.int .i64 x)) := by
  obtain ⟨l, ho, hp, hs, hb⟩ := h
  refine ⟨_, own_set ho k x, set_poly hp k ox, fun p hp' => ?_, hb.setCell (own_block ho).1 _⟩
  rw [vec_set (by rw [hp.1]; omega)]
  unfold upto
  by_cases e : p = k
  · subst e; rw [if_pos rfl, if_pos (by omega), hx]
  · rw [if_neg e, hs p hp']
    unfold upto
    by_cases d : p < k
    · rw [if_pos d, if_pos (by omega)]
    · rw [if_neg d, if_neg (by omega)]
theorem Holds.drewN {w wr : World} {N g c : Nat} {v : V} (h : Holds w N g c v wr) (n : Nat) : Holds w N g c v (wr.drewN n) := by
  obtain ⟨l, a, b, d, e⟩ := h
  exact ⟨l, a, b, d, below_drewN e n⟩
theorem Holds.bel {w wr : World} {N g c : Nat} {v : V} (h : Holds w N g c v wr) : Below w.heap.size w wr := by
  obtain ⟨l, a, b, d, e⟩ := h
  exact e
end Go.Proofs.Ytneopnlklhcopaa
