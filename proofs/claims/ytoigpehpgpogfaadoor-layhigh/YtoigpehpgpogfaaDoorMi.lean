/- The law LayHints, walked. -/
import Derived.Test.YtoigpehpgpogfaaDoorMh
namespace Go.Proofs.YtoigpehpgpogfaaDoor
open Go.RowKit Slices Go.Proofs.YtoigpehpgpogfaaDoor.Bit

/-- bytes and an error are told -/
def ResP (w : World) (l : List Int) (E : Int) (e : Ending) (w' : World) : Prop :=
  ∃ A c v, e = .returned (.tuple #[.slice A l.length c, v]) ∧ w'.ownsRow w.heap.size 5 1 (.slice A l.length c) l.length (ints .u8 l) ∧ IsErr E v w' ∧ Below w.heap.size w w'
/-- no two of the lists share a block -/
def Alone (es : List Ent) : Prop := ∀ i j (hi : i < es.length) (hj : j < es.length), i ≠ j → (eval es[i]).ownBlock = none ∨ (eval es[i]).ownBlock ≠ (eval es[j]).ownBlock
/-- lists and an error are told -/
def ResV (w : World) (L : List (List Int)) (E : Int) (e : Ending) (w' : World) : Prop :=
  ∃ A c es v, e = .returned (.tuple #[.slice A es.length c, v]) ∧ OwnL w.heap.size (.slice A es.length c) es w' ∧ Alone es ∧ nums es = L ∧ IsErr E v w' ∧ Below w.heap.size w w'
/-- what is asked of the program's readers and writers of hints, and of high parts -/
structure LayOk2 : Prop extends LayOk where
  hints : ∀ (s : Int) (A : Option Addr) (c : Nat) (es : List Ent) (w : World), HasL w w.heap.size A es → es.length ≤ 4000 → (∀ i (h : i < es.length), es[i].l.length ≤ 4000) →
    Calls Tryd.prog 27 #[.int .i64 s, .slice A es.length c] w (ResP w (hB s (nums es)) (hE s (nums es)))
  unhint : ∀ (s : Int) (A : Option Addr) (c : Nat) (b : List Int) (w : World), Has .u8 w w.heap.size A b → Fit 8 b → b.length ≤ 4000 → b.length ≤ c →
    Calls Tryd.prog 29 #[.int .i64 s, .slice A b.length c] w (ResV w (rL s b) (rE s b))
  high : ∀ (s : Int) (A : Option Addr) (c : Nat) (es : List Ent) (w : World), HasL w w.heap.size A es → es.length ≤ 4000 → (∀ i (h : i < es.length), es[i].l.length ≤ 4000) →
    Calls Tryd.prog 31 #[.int .i64 s, .slice A es.length c] w (ResP w (uB s (nums es)) (uE s (nums es)))

theorem hB_len (s : Int) (h : List (List Int)) : (hB s h).length ≤ 4000 := by
  unfold hB
  split
  · unfold hintsB
    split
    · next e =>
      obtain ⟨_, K1, _, W1⟩ := kw_bd s
      unfold hintsE at e
      split at e
      · split at e
        · omega
        · have : (hintsL (kOf s) (wOf s) h).length = wOf s + kOf s := outL_len (by omega) (by rw [counts_len]; exact Nat.le_refl _)
          omega
      · omega
    · simp
  · simp
theorem uB_len (s : Int) (h : List (List Int)) : (uB s h).length ≤ 4000 := by
  unfold uB
  split
  · next e =>
    obtain ⟨_, K1, _, _⟩ := kw_bd s
    have hd : (1 ≤ dOf s ∧ dOf s ≤ 6) ∧ mOf s ≤ 2 ^ dOf s := by unfold dOf mOf; split <;> decide
    rw [highL_len hd.1.1 (by omega) hd.2 _ e.2.2]
    have : 32 * dOf s * kOf s ≤ 32 * 6 * 8 := Nat.mul_le_mul (by omega) K1
    omega
  · simp
theorem rL_len (s : Int) (b : List Int) : (rL s b).length ≤ 8 ∧ ∀ i, ((rL s b).getD i []).length ≤ 256 := by
  unfold rL
  split
  · obtain ⟨_, K1, _, _⟩ := kw_bd s
    refine ⟨by rw [readL_len]; exact K1, fun i => ?_⟩
    unfold readL
    rw [List.getD_eq_getElem?_getD, List.getElem?_map]
    by_cases hi : i < kOf s
    · rw [List.getElem?_range hi]; show (readP _ _ _).length ≤ 256; unfold readP; rw [mark_len]; exact Nat.le_refl _
    · rw [List.getElem?_eq_none (by simp; omega)]; simp
  · exact ⟨by simp, fun i => by simp⟩

set_option maxRecDepth 100000 in
set_option maxHeartbeats 1000000 in
theorem layHints_big (P : LayOk2) (s : Int) (A A' : Option Addr) (c c' m : Nat) (es : List Ent) (w : World) (h : HasL w w.heap.size A es) (hn : es.length ≤ 4611686018427387904) (hmx : ∀ i (h : i < es.length), es[i].l.length ≤ maxLen) (hm : m ≤ 4611686018427387904) (hg : Han w)
    (hb : ¬ (es.length ≤ 10 ∧ ∀ i (h : i < es.length), es[i].l.length ≤ 300) ∨ 300 < m) :
    Calls Tryd.prog 5 #[.int .i64 s, .slice A es.length c, .slice A' m c'] w fun e w' => e = .returned (.bool true) ∧ Below w.heap.size w w' := by
  have HG := Lib.hid hg
  have H := Lib.hid h
  have HMX := Lib.hid hmx
  clear hg h hmx
  by_cases h1 : es.length ≤ 10 ∧ ∀ i (h : i < es.length), es[i].l.length ≤ 300
  · have h2 : 300 < m := by rcases hb with q | q; exact absurd h1 q; exact q
    have H1 := Lib.hid h1
    clear hb h1
    go_enter Tryd.func5, Tryd.ntmps5
    go_wp2_with (first
      | (go_at_call 26; refine (great_no _ _ _ es _ H.out H1.out.1 H1.out.2).mono ?_; rintro e w' ⟨rfl, rfl⟩)
      | (go_at_call 8; refine (awake_any P.toLayOk _ HG.out).mono ?_; rintro e w' ⟨rfl, hb⟩))
    go_ret
    exact ⟨rfl, hb⟩
  · have H1 := Lib.hid h1
    clear hb h1
    go_enter Tryd.func5, Tryd.ntmps5
    go_wp2_with (first
      | (go_at_call 26; refine (great_yes _ _ _ es _ H.out hn HMX.out H1.out).mono ?_; rintro e w' ⟨rfl, rfl⟩)
      | (go_at_call 8; refine (awake_any P.toLayOk _ HG.out).mono ?_; rintro e w' ⟨rfl, hb⟩))
    go_ret
    exact ⟨rfl, hb⟩
end Go.Proofs.YtoigpehpgpogfaaDoor
