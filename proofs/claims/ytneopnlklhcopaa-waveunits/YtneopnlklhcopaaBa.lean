/- Words: what is told; slices of slices; the program's tables. -/
import Derived.Test.YtneopnlklhcopaaF
import Derived.Test.YtneopnlklhcopaaG
import Derived.Test.YtneopnlklhcopaaJ
import Derived.Test.YtneopnlklhcopaaL
import Derived.Test.YtneopnlklhcopaaPolyN
import Derived.WalkLawsBesides
namespace Go.Proofs.Ytneopnlklhcopaa
open Go.RowKit Slices Go.Proofs.Ytneopnlklhcopaa.Ring

theorem add_pos (a : Addr) {n : Nat} (h : 0 < n) : a.add n = { block := a.block, off := a.off + n } := by unfold Addr.add; rw [if_neg (by omega)]
/-- a list is told: none, or a slice of the call's own -/
def Res (w : World) (l : List Int) (e : Ending) (w' : World) : Prop :=
  ∃ A c, e = .returned (.slice A l.length c) ∧ w'.ownsRow w.heap.size 3 1 (.slice A l.length c) l.length (ints l) ∧ Below w.heap.size w w'
theorem Gives.res {w w' : World} {l : List Int} {e : Ending} (h : Gives w l e w') : Res w l e w' := by
  obtain ⟨g, c, a, b, d⟩ := h
  exact ⟨_, c, a, b, d⟩
theorem res_nil {w w' : World} {e : Ending} (he : e = .returned (.slice none 0 0)) (hw : ∃ n, w' = w.drewN n) : Res w [] e w' := by
  obtain ⟨n, rfl⟩ := hw
  exact ⟨none, 0, he, World.ownsRow_nil _ _ _ _, below_drewN (Below.refl _ _) _⟩
theorem big {l : List Int} (h : l.length ≤ 300) : l.length ≤ 4611686018427387904 := by omega

theorem has_next {w w' : World} {A : Option Addr} {l : List Int} (h : Has w w.heap.size A l) (hb : Below w.heap.size w w') : Has w' w'.heap.size A l := (h.below hb).mono hb.size
theorem own_next {w w' : World} {B n : Nat} {v : Value} {xs : List Value} (h : w.ownsRow B 3 1 v n xs) (hb : Below w.heap.size w w') : w'.ownsRow B 3 1 v n xs := by
  refine ⟨h.1, ?_⟩
  rcases h.2 with h' | ⟨g, c, cur, hv, hB, hg, hr⟩
  · exact .inl h'
  · have hlt : g < w.heap.size := (h.lt g (by rw [hv]; rfl)).2
    exact .inr ⟨g, c, cur, hv, hB, (hb.block g hlt).trans hg, hr⟩
theorem own_read {w : World} {B c : Nat} {A : Option Addr} {l : List Int} (h : w.ownsRow B 3 1 (.slice A l.length c) l.length (ints l)) : Has w w.heap.size A l := by
  rcases h.2 with ⟨_, h0⟩ | ⟨g, c', cur, hv, _⟩
  · intro k hk; omega
  · injection hv with h1 h2 h3
    subst h1
    subst h3
    exact own_has h

/-- a slice of slices: where each lies, its room, its numbers -/
structure Ent where
  A : Option Addr
  c : Nat
  l : List Int
def nums (es : List Ent) : List (List Int) := es.map (·.l)
def HasL (w : World) (B : Nat) (A : Option Addr) (es : List Ent) : Prop :=
  ∀ k (h : k < es.length), (∃ a : Addr, A = some a ∧ a.block < B ∧ w.cell? (a.add k) = some (.slice es[k].A es[k].l.length es[k].c)) ∧ Has w B es[k].A es[k].l
theorem HasL.below {w w' : World} {B : Nat} {A : Option Addr} {es : List Ent} (h : HasL w B A es) (hb : Below B w w') : HasL w' B A es := fun k hk => by
  obtain ⟨⟨a, e, ha, hc⟩, h2⟩ := h k hk
  exact ⟨⟨a, e, ha, (hb.cell (by rw [add_block]; exact ha)).trans hc⟩, h2.below hb⟩
theorem HasL.mono {w : World} {B B' : Nat} {A : Option Addr} {es : List Ent} (h : HasL w B A es) (hB : B ≤ B') : HasL w B' A es := fun k hk => by
  obtain ⟨⟨a, e, ha, hc⟩, h2⟩ := h k hk
  exact ⟨⟨a, e, by omega, hc⟩, h2.mono hB⟩
theorem HasL.next {w w' : World} {A : Option Addr} {es : List Ent} (h : HasL w w.heap.size A es) (hb : Below w.heap.size w w') : HasL w' w'.heap.size A es := (h.below hb).mono hb.size
theorem nums_len (es : List Ent) : (nums es).length = es.length := List.length_map ..
theorem nums_at (es : List Ent) {k : Nat} (h : k < es.length) : (nums es).getD k [] = es[k].l := by
  unfold nums
  rw [List.getD_eq_getElem?_getD, List.getElem?_map, List.getElem?_eq_getElem h]; rfl

def NilPost (w : World) (e : Ending) (w' : World) : Prop := e = .returned (.slice none 0 0) ∧ Below w.heap.size w w'


theorem HasL.drewN {w : World} {B : Nat} {A : Option Addr} {es : List Ent} (h : HasL w B A es) (n : Nat) : HasL (w.drewN n) B A es := h
theorem all_at {es : List Ent} (h : AllPoly (nums es)) {k : Nat} (hk : k < es.length) : IsPoly es[k].l := by
  have := h k (by rw [nums_len]; exact hk)
  rwa [nums_at es hk] at this
theorem all_not {es : List Ent} (h : ¬ AllPoly (nums es)) : ∃ j, ∃ hj : j < es.length, ¬ IsPoly es[j].l := by
  apply Classical.byContradiction
  intro hne
  apply h
  intro k hk
  rw [nums_len] at hk
  rw [nums_at es hk]
  exact Classical.byContradiction fun g => hne ⟨k, hk, g⟩

theorem own_down {w : World} {B B' n : Nat} {v : Value} {xs : List Value} (h : w.ownsRow B 3 1 v n xs) (hB : B' ≤ B) : w.ownsRow B' 3 1 v n xs := by
  refine ⟨h.1, ?_⟩
  rcases h.2 with h' | ⟨g, c, cur, hv, hb, hr⟩
  · exact .inl h'
  · exact .inr ⟨g, c, cur, hv, Nat.le_trans hB hb, hr⟩
theorem hasL_one {w : World} {A1 : Option Addr} {c1 : Nat} {l1 : List Int} (h1 : Has w w.heap.size A1 l1) :
    HasL (w.alloc (.cells #[.slice A1 l1.length c1] 22)) (w.alloc (.cells #[.slice A1 l1.length c1] 22)).heap.size (some ⟨w.heap.size, 0, none⟩) [⟨A1, c1, l1⟩] := by
  have hb : Below w.heap.size w (w.alloc (.cells #[.slice A1 l1.length c1] 22)) := (Below.refl _ _).alloc (Nat.le_refl _) _
  have hs : (w.alloc (.cells #[.slice A1 l1.length c1] 22)).heap.size = w.heap.size + 1 := by simp
  intro k hk
  have hk' : k = 0 := by simp at hk; omega
  subst hk'
  have cell : ∀ j, (w.alloc (.cells #[.slice A1 l1.length c1] 22)).cell? ⟨w.heap.size, j, none⟩ = #[Value.slice A1 l1.length c1][j]? := fun j => cell_of_row _ _ j _ _ (0, 0) (heap_alloc_new w _)
  exact ⟨⟨_, rfl, by rw [hs]; exact Nat.lt_succ_self _, cell 0⟩, has_next h1 hb⟩
theorem hasL_two {w : World} {A1 A2 : Option Addr} {c1 c2 : Nat} {l1 l2 : List Int} (h1 : Has w w.heap.size A1 l1) (h2 : Has w w.heap.size A2 l2) :
    HasL (w.alloc (.cells #[.slice A1 l1.length c1, .slice A2 l2.length c2] 22)) (w.alloc (.cells #[.slice A1 l1.length c1, .slice A2 l2.length c2] 22)).heap.size (some ⟨w.heap.size, 0, none⟩) [⟨A1, c1, l1⟩, ⟨A2, c2, l2⟩] := by
  have hb : Below w.heap.size w (w.alloc (.cells #[.slice A1 l1.length c1, .slice A2 l2.length c2] 22)) := (Below.refl _ _).alloc (Nat.le_refl _) _
  have hs : (w.alloc (.cells #[.slice A1 l1.length c1, .slice A2 l2.length c2] 22)).heap.size = w.heap.size + 1 := by simp
  intro k hk
  have hk' : k = 0 ∨ k = 1 := by simp at hk; omega
  have cell : ∀ j, (w.alloc (.cells #[.slice A1 l1.length c1, .slice A2 l2.length c2] 22)).cell? ⟨w.heap.size, j, none⟩ = #[Value.slice A1 l1.length c1, .slice A2 l2.length c2][j]? := fun j => cell_of_row _ _ j _ _ (0, 0) (heap_alloc_new w _)
  rcases hk' with rfl | rfl
  · exact ⟨⟨_, rfl, by rw [hs]; exact Nat.lt_succ_self _, cell 0⟩, has_next h1 hb⟩
  · exact ⟨⟨_, rfl, by rw [hs]; exact Nat.lt_succ_self _, by rw [add_pos _ (by omega)]; exact cell 1⟩, has_next h2 hb⟩
theorem two_le {e1 e2 : Ent} (h1 : e1.l.length ≤ 300) (h2 : e2.l.length ≤ 300) : ∀ i (h : i < [e1, e2].length), [e1, e2][i].l.length ≤ 300 := by
  intro i h
  have : i = 0 ∨ i = 1 := by simp at h; omega
  rcases this with rfl | rfl
  · exact h1
  · exact h2

end Go.Proofs.Ytneopnlklhcopaa
