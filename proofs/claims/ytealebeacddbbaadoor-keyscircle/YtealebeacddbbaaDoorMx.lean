/- Rows of cells as a table of values: so many cells a row. Nothing of the program. -/
import Derived.Test.YtealebeacddbbaaDoorWords
namespace Go.Proofs.YtealebeacddbbaaDoor
open Go.RowKit Slices

/-- n rows of k cells -/
def mat (k n : Nat) (f : Nat → Nat → Value) : List Value := (List.range (n * k)).map fun i => f (i / k) (i % k)
theorem mat_len (k n : Nat) (f : Nat → Nat → Value) : (mat k n f).length = n * k := by simp [mat]
theorem mat_get (k n : Nat) (f : Nat → Nat → Value) {i : Nat} (h : i < n * k) : (mat k n f)[i]? = some (f (i / k) (i % k)) := by
  unfold mat
  rw [List.getElem?_map, List.getElem?_range h]; rfl
theorem place_lt {k n j r : Nat} (hj : j < n) (hr : r < k) : j * k + r < n * k := by
  have : (j + 1) * k ≤ n * k := Nat.mul_le_mul_right k hj
  rw [Nat.succ_mul] at this
  omega
theorem place_div {k j r : Nat} (hr : r < k) : (j * k + r) / k = j := by
  rw [Nat.mul_comm, Nat.mul_add_div (by omega), Nat.div_eq_of_lt hr, Nat.add_zero]
theorem place_mod {k j r : Nat} (hr : r < k) : (j * k + r) % k = r := by
  rw [Nat.mul_comm, Nat.mul_add_mod, Nat.mod_eq_of_lt hr]
theorem mat_at (k n : Nat) (f : Nat → Nat → Value) {j r : Nat} (hj : j < n) (hr : r < k) : (mat k n f)[j * k + r]? = some (f j r) := by
  rw [mat_get k n f (place_lt hj hr), place_div hr, place_mod hr]
theorem mat_congr {k n : Nat} {f g : Nat → Nat → Value} (h : ∀ j r, j < n → r < k → f j r = g j r) : mat k n f = mat k n g := by
  apply List.ext_getElem?
  intro i
  by_cases hi : i < n * k
  · have hk : 0 < k := by
      rcases Nat.eq_zero_or_pos k with e | e
      · subst e; omega
      · exact e
    rw [mat_get k n f hi, mat_get k n g hi, h _ _ (Nat.div_lt_of_lt_mul (by rw [Nat.mul_comm]; exact hi)) (Nat.mod_lt _ hk)]
  · rw [List.getElem?_eq_none (by rw [mat_len]; omega), List.getElem?_eq_none (by rw [mat_len]; omega)]
/-- one cell another one -/
def updM (f : Nat → Nat → Value) (j r : Nat) (v : Value) : Nat → Nat → Value := fun j' r' => if j' = j ∧ r' = r then v else f j' r'
theorem mat_set {k n : Nat} {f : Nat → Nat → Value} {j r : Nat} (hj : j < n) (hr : r < k) (v : Value) : (mat k n f).set (j * k + r) v = mat k n (updM f j r v) := by
  apply List.ext_getElem?
  intro i
  rw [List.getElem?_set]
  by_cases hi : i < n * k
  · rw [mat_get k n (updM f j r v) hi]
    by_cases e : j * k + r = i
    · subst e
      rw [if_pos rfl, if_pos (by rw [mat_len]; exact hi), place_div hr, place_mod hr]
      unfold updM
      rw [if_pos ⟨rfl, rfl⟩]
    · rw [if_neg e, mat_get k n f hi]
      unfold updM
      rw [if_neg]
      rintro ⟨h1, h2⟩
      apply e
      rw [← h1, ← h2, Nat.mul_comm]
      exact Nat.div_add_mod i k
  · rw [if_neg (by have := place_lt hj hr; omega), List.getElem?_eq_none (by rw [mat_len]; omega), List.getElem?_eq_none (by rw [mat_len]; omega)]
theorem mat_plain {k n : Nat} {f : Nat → Nat → Value} (h : ∀ j r, j < n → r < k → (f j r).oneCell' = true) : ∀ u ∈ mat k n f, u.oneCell' = true := by
  intro u hu
  obtain ⟨i, hi, rfl⟩ := List.mem_map.1 hu
  have hi' : i < n * k := List.mem_range.1 hi
  have hk : 0 < k := by
    rcases Nat.eq_zero_or_pos k with e | e
    · subst e; omega
    · exact e
  exact h _ _ (Nat.div_lt_of_lt_mul (by rw [Nat.mul_comm]; exact hi')) (Nat.mod_lt _ hk)
theorem mat_one (k : Nat) (f : Nat → Nat → Value) : mat k 1 f = (List.range k).map (f 0) := by
  unfold mat
  rw [Nat.one_mul]
  apply List.map_congr_left
  intro i hi
  have := List.mem_range.1 hi
  rw [Nat.div_eq_of_lt this, Nat.mod_eq_of_lt this]
theorem mat_app {k : Nat} (n m : Nat) (f : Nat → Nat → Value) (hk : 0 < k) : mat k (n + m) f = mat k n f ++ mat k m (fun j r => f (n + j) r) := by
  apply List.ext_getElem?
  intro i
  by_cases h1 : i < n * k
  · rw [List.getElem?_append_left (by rw [mat_len]; exact h1), mat_get k n f h1, mat_get k (n + m) f (by rw [Nat.add_mul]; omega)]
  · rw [List.getElem?_append_right (by rw [mat_len]; omega), mat_len]
    by_cases h2 : i < (n + m) * k
    · have e : i = n * k + (i - n * k) := by omega
      rw [mat_get k (n + m) f h2, mat_get k m _ (by rw [Nat.add_mul] at h2; omega)]
      have e1 : i / k = n + (i - n * k) / k := by rw [e, Nat.mul_comm n k, Nat.mul_add_div hk, Nat.add_sub_cancel_left]
      have e2 : i % k = (i - n * k) % k := by rw [e, Nat.mul_comm n k, Nat.mul_add_mod, Nat.add_sub_cancel_left]
      rw [e1, e2]
    · rw [List.getElem?_eq_none (by rw [mat_len]; omega), List.getElem?_eq_none (by rw [mat_len]; rw [Nat.add_mul] at h2; omega)]

/-- the slice at A reads as these rows; its cells lie below block B -/
def HasM (w : World) (B : Nat) (A : Option Addr) (k n : Nat) (f : Nat → Nat → Value) : Prop :=
  ∀ j r, j < n → r < k → ∃ a : Addr, A = some a ∧ a.block < B ∧ w.cell? (a.add (j * k + r)) = some (f j r)
theorem HasM.next {w w' : World} {A : Option Addr} {k n : Nat} {f : Nat → Nat → Value} (h : HasM w w.heap.size A k n f) (hb : Below w.heap.size w w') : HasM w' w'.heap.size A k n f := fun j r hj hr => by
  obtain ⟨a, e, hab, hc⟩ := h j r hj hr
  exact ⟨a, e, Nat.lt_of_lt_of_le hab hb.size, (hb.cell (by rw [add_block]; exact hab)).trans hc⟩
theorem HasM.nil (w : World) (B : Nat) (A : Option Addr) (k : Nat) (f : Nat → Nat → Value) : HasM w B A k 0 f := fun j r hj => by cases hj
theorem HasM.cells {w : World} {B : Nat} {A : Option Addr} {k n : Nat} {f : Nat → Nat → Value} (h : HasM w B A k n f) : ∀ ad, A = some ad → ∀ j u, (mat k n f)[j]? = some u → w.cell? (ad.add j) = some u := by
  intro ad e i u hu
  have hi : i < n * k := by have := (List.getElem?_eq_some_iff.mp hu).1; rwa [mat_len] at this
  have hk : 0 < k := by
    rcases Nat.eq_zero_or_pos k with e | e
    · subst e; omega
    · exact e
  rw [mat_get k n f hi] at hu
  obtain ⟨a, e1, _, hc⟩ := h (i / k) (i % k) (Nat.div_lt_of_lt_mul (by rw [Nat.mul_comm]; exact hi)) (Nat.mod_lt _ hk)
  rw [e] at e1
  injection e1 with e1
  subst e1
  rw [Nat.mul_comm, Nat.div_add_mod] at hc
  rw [hc]
  exact hu
theorem add_addN (a : Addr) (n m : Nat) : (a.add n).add m = a.add (n + m) := by
  obtain ⟨b, o, s⟩ := a
  unfold Addr.add
  by_cases h1 : n = 0
  · subst h1; simp
  · by_cases h2 : m = 0
    · subst h2; simp
    · cases s <;> simp [h1, h2] <;> omega
/-- the cells of the row at place j, as a walk asks for them -/
theorem HasM.row {w : World} {B : Nat} {A : Option Addr} {k n : Nat} {f : Nat → Nat → Value} (h : HasM w B A k n f) {j : Nat} (hj : j < n) (hk : 0 < k) :
    ∃ a : Addr, A = some a ∧ a.block < B ∧ w.cell? (a.add (j * k)) = some (f j 0) ∧ ∀ r, 0 < r → r < k → w.cell? ⟨(a.add (j * k)).block, (a.add (j * k)).off + r, none⟩ = some (f j r) := by
  obtain ⟨a, e, hb, h0⟩ := h j 0 hj hk
  refine ⟨a, e, hb, h0, fun r r0 hr => ?_⟩
  obtain ⟨a', e', _, hc⟩ := h j r hj hr
  rw [e] at e'
  injection e' with e'
  subst e'
  rw [← add_addN] at hc
  have hs : ((a.add (j * k)).add r) = ⟨(a.add (j * k)).block, (a.add (j * k)).off + r, none⟩ := if_neg (by omega)
  rw [← hs]
  exact hc
/-- rows that a call made itself, from block B on -/
def OwnM (w : World) (B : Nat) (t : TypeId) (k : Nat) (A : Option Addr) (n c : Nat) (f : Nat → Nat → Value) : Prop := w.ownsRow B t k (.slice A n c) n (mat k n f)
theorem OwnM.next {t : TypeId} {w w' : World} {B k n c : Nat} {A : Option Addr} {f : Nat → Nat → Value} (h : OwnM w B t k A n c f) (hb : Below w.heap.size w w') : OwnM w' B t k A n c f := by
  refine ⟨h.1, ?_⟩
  rcases h.2 with h' | ⟨g, c', cur, hv, hB, hg, hr⟩
  · exact .inl h'
  · have hlt : g < w.heap.size := (h.lt g (by rw [hv]; rfl)).2
    exact .inr ⟨g, c', cur, hv, hB, (hb.block g hlt).trans hg, hr⟩
theorem OwnM.stored {t : TypeId} {w : World} {B k n c g : Nat} {f : Nat → Nat → Value} (h : OwnM w B t k (some ⟨g, 0, none⟩) n c f) {j r : Nat} (hj : j < n) (hr : r < k) (v : Value) : OwnM (w.setCell ⟨g, j * k + r, none⟩ v) B t k (some ⟨g, 0, none⟩) n c (updM f j r v) := by
  have q := (World.ownsRow.stored h (j * k + r) v).1
  rw [mat_set hj hr] at q
  exact q
theorem OwnM.none {t : TypeId} {w : World} {B k n c : Nat} {A : Option Addr} {f : Nat → Nat → Value} (h : OwnM w B t k A n c f) (hA : A = Option.none) : n = 0 ∧ c = 0 := by
  subst hA
  rcases h.2 with ⟨hv, rfl⟩ | ⟨g, c', cur, hv, _⟩
  · injection hv with _ _ h3
    exact ⟨rfl, h3⟩
  · injection hv with h1
    cases h1
theorem OwnM.cap {t : TypeId} {w : World} {B k n c : Nat} {A : Option Addr} {f : Nat → Nat → Value} (h : OwnM w B t k A n c f) : n ≤ c := by
  rcases h.2 with ⟨hv, h0⟩ | ⟨g, c', cur, hv, _, _, hc, _⟩
  · omega
  · injection hv with h1 h2 h3
    omega
theorem OwnM.has {t : TypeId} {w : World} {B k n c : Nat} {A : Option Addr} {f : Nat → Nat → Value} (h : OwnM w B t k A n c f) : HasM w w.heap.size A k n f := fun j r hj hr => by
  rcases h.2 with ⟨hv, h0⟩ | ⟨g, c', cur, hv, hb, hg, _⟩
  · omega
  · injection hv with h1 h2 h3
    subst h1
    subst h3
    refine ⟨_, rfl, (World.ownsRow.lt h g rfl).2, ?_⟩
    have q := World.ownsRow.cellAt h (j * k + r) (place_lt hj hr)
    rw [mat_at k n f hj hr] at q
    rw [← q]
    congr 1
    unfold Addr.add
    split
    · simp_all
    · simp
theorem OwnM.at {t : TypeId} {w : World} {B k n c : Nat} {A : Option Addr} {f : Nat → Nat → Value} (h : OwnM w B t k A n c f) (hn : 0 < n) : ∃ g, A = some ⟨g, 0, Option.none⟩ ∧ B ≤ g ∧ g < w.heap.size ∧ ∃ cur, w.heap[g]? = some (.cells cur t (0, 0)) := by
  rcases h.2 with ⟨hv, h0⟩ | ⟨g, c', cur, hv, hb, hg, _⟩
  · omega
  · injection hv with h1 h2 h3
    exact ⟨g, h1, hb, (Array.getElem?_eq_some_iff.1 hg).1, cur, hg⟩
end Go.Proofs.YtealebeacddbbaaDoor
