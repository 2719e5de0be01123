/- Words for lists of tenants: what one reads as, what a call made itself (three cells a tenant). Nothing of the program. -/
import Derived.Test.YtjpmglnhnfnmnaaDoorMath
import Derived.Test.YtjpmglnhnfnmnaaDoorWords
namespace Go.Proofs.YtjpmglnhnfnmnaaDoor
open Go.RowKit Slices

def cellsOf (t : Ten) : List Value := [.int .i64 t.id, .int .i64 t.par, .string t.nm]
def cellsT (l : List Ten) : List Value := l.flatMap cellsOf
theorem cellsT_nil : cellsT [] = [] := rfl
theorem cellsT_cons (t : Ten) (l : List Ten) : cellsT (t :: l) = cellsOf t ++ cellsT l := rfl
theorem cellsT_app (l r : List Ten) : cellsT (l ++ r) = cellsT l ++ cellsT r := by unfold cellsT; rw [List.flatMap_append]
theorem cellsT_one (t : Ten) : cellsT [t] = cellsOf t := by rw [cellsT_cons, cellsT_nil, List.append_nil]
theorem cellsT_len (l : List Ten) : (cellsT l).length = l.length * 3 := by
  induction l with
  | nil => rfl
  | cons t l ih => rw [cellsT_cons, List.length_append, ih, List.length_cons]; show 3 + _ = _; omega
theorem cellsT_get : ∀ (l : List Ten) (k r : Nat), k < l.length → r < 3 → (cellsT l)[k * 3 + r]? = (cellsOf (tg l k))[r]? := by
  intro l
  induction l with
  | nil => intro k r h; cases h
  | cons t l ih =>
    intro k r hk hr
    rw [cellsT_cons]
    cases k with
    | zero =>
      rw [List.getElem?_append_left (by show 0 * 3 + r < 3; omega), Nat.zero_mul, Nat.zero_add]; rfl
    | succ k =>
      rw [List.getElem?_append_right (by show 3 ≤ _; omega)]
      have e : (k + 1) * 3 + r - (cellsOf t).length = k * 3 + r := by show (k + 1) * 3 + r - 3 = _; omega
      rw [e, ih k r (by simpa using hk) hr]; rfl
theorem cellsT_plain (l : List Ten) : ∀ u ∈ cellsT l, u.oneCell' = true := by
  intro u hu
  obtain ⟨t, _, h⟩ := List.mem_flatMap.1 hu
  simp only [cellsOf, List.mem_cons, List.not_mem_nil, or_false] at h
  rcases h with rfl | rfl | rfl <;> rfl

/-- the slice at A reads as l; its cells lie below block B -/
def HasT (w : World) (B : Nat) (A : Option Addr) (l : List Ten) : Prop :=
  ∀ j u, (cellsT l)[j]? = some u → ∃ a : Addr, A = some a ∧ a.block < B ∧ w.cell? (a.add j) = some u
theorem HasT.keep {w w' : World} {B : Nat} {A : Option Addr} {l : List Ten} (h : HasT w B A l) (hk : ∀ p : Addr, p.block < B → w'.cell? p = w.cell? p) : HasT w' B A l := fun j u hu => by
  obtain ⟨a, e, hb, hc⟩ := h j u hu
  exact ⟨a, e, hb, (hk _ (by rw [add_block]; exact hb)).trans hc⟩
theorem HasT.next {w w' : World} {A : Option Addr} {l : List Ten} (h : HasT w w.heap.size A l) (hb : Below w.heap.size w w') : HasT w' w'.heap.size A l := fun j u hu => by
  obtain ⟨a, e, hab, hc⟩ := h j u hu
  exact ⟨a, e, Nat.lt_of_lt_of_le hab hb.size, (hb.cell (by rw [add_block]; exact hab)).trans hc⟩
theorem HasT.drewN {w : World} {B : Nat} {A : Option Addr} {l : List Ten} (h : HasT w B A l) (n : Nat) : HasT (w.drewN n) B A l := h
theorem HasT.cells {w : World} {B : Nat} {A : Option Addr} {l : List Ten} (h : HasT w B A l) : ∀ ad, A = some ad → ∀ j u, (cellsT l)[j]? = some u → w.cell? (ad.add j) = some u := by
  intro ad e j u hu
  obtain ⟨a, e1, _, hc⟩ := h j u hu
  rw [e] at e1
  injection e1 with e1
  subst e1
  exact hc
/-- the three cells of the one at place k -/
theorem HasT.at {w : World} {B : Nat} {A : Option Addr} {l : List Ten} (h : HasT w B A l) {k : Nat} (hk : k < l.length) : ∃ a : Addr, A = some a ∧ a.block < B ∧ w.cell? (a.add (k * 3)) = some (.int .i64 (tg l k).id) ∧ w.cell? (a.add (k * 3 + 1)) = some (.int .i64 (tg l k).par) ∧ w.cell? (a.add (k * 3 + 2)) = some (.string (tg l k).nm) := by
  obtain ⟨a, e, hb, h0⟩ := h (k * 3 + 0) _ (cellsT_get l k 0 hk (by omega))
  obtain ⟨a1, e1, _, h1⟩ := h (k * 3 + 1) _ (cellsT_get l k 1 hk (by omega))
  obtain ⟨a2, e2, _, h2⟩ := h (k * 3 + 2) _ (cellsT_get l k 2 hk (by omega))
  rw [e] at e1 e2
  injection e1 with e1
  injection e2 with e2
  subst e1
  subst e2
  exact ⟨a, e, hb, h0, h1, h2⟩
theorem add_add3 (a : Addr) (n m : Nat) : (a.add n).add m = a.add (n + m) := by
  obtain ⟨b, o, s⟩ := a
  unfold Addr.add
  by_cases h1 : n = 0
  · subst h1; simp
  · by_cases h2 : m = 0
    · subst h2; simp
    · cases s <;> simp [h1, h2] <;> omega
theorem ownT_len {t : TypeId} {w : World} {B n : Nat} {v : Value} {l : List Ten} (h : w.ownsRow B t 3 v n (cellsT l)) : l.length = n := by
  have := h.1; rw [cellsT_len] at this; omega
theorem ownT_slice {t : TypeId} {w : World} {B n : Nat} {v : Value} {xs : List Value} (h : w.ownsRow B t 3 v n xs) : ∃ A c, v = .slice A n c := by
  rcases h.2 with ⟨hv, rfl⟩ | ⟨g, c, cur, hv, hb, _⟩
  · exact ⟨none, 0, hv⟩
  · exact ⟨_, c, hv⟩
theorem ownT_none {t : TypeId} {w : World} {B n c : Nat} {A : Option Addr} {xs : List Value} (h : w.ownsRow B t 3 (.slice A n c) n xs) (hA : A = none) : n = 0 ∧ c = 0 := by
  subst hA
  rcases h.2 with ⟨hv, rfl⟩ | ⟨g, c', cur, hv, hb, _⟩
  · injection hv with _ _ h3
    exact ⟨rfl, h3⟩
  · injection hv with h1
    cases h1
theorem ownT_cap {t : TypeId} {w : World} {B n c : Nat} {A : Option Addr} {xs : List Value} (h : w.ownsRow B t 3 (.slice A n c) n xs) : n ≤ c := by
  rcases h.2 with ⟨hv, h0⟩ | ⟨g, c', cur, hv, _, _, hc, _⟩
  · omega
  · injection hv with h1 h2 h3
    omega
theorem ownT_read {t : TypeId} {w : World} {B n c : Nat} {A : Option Addr} {l : List Ten} (h : w.ownsRow B t 3 (.slice A n c) n (cellsT l)) : HasT w w.heap.size A l := fun j u hu => by
  have hj : j < (cellsT l).length := (List.getElem?_eq_some_iff.mp hu).1
  have hl := h.1
  rcases h.2 with ⟨hv, h0⟩ | ⟨g, c', cur, hv, hb, hg, _⟩
  · omega
  · injection hv with h1 h2 h3
    subst h1
    subst h3
    refine ⟨_, rfl, (h.lt g rfl).2, ?_⟩
    have q := h.cellAt j (by omega)
    rw [← hu, ← q]
    congr 1
    unfold Addr.add
    split
    · simp_all
    · simp
theorem ownT_next {t : TypeId} {w w' : World} {B n : Nat} {v : Value} {xs : List Value} (h : w.ownsRow B t 3 v n xs) (hb : Below w.heap.size w w') : w'.ownsRow B t 3 v n xs := by
  refine ⟨h.1, ?_⟩
  rcases h.2 with h' | ⟨g, c, cur, hv, hB, hg, hr⟩
  · exact .inl h'
  · have hlt : g < w.heap.size := (h.lt g (by rw [hv]; rfl)).2
    exact .inr ⟨g, c, cur, hv, hB, (hb.block g hlt).trans hg, hr⟩

def I64 (n : Int) : Prop := -9223372036854775808 ≤ n ∧ n ≤ 9223372036854775807
/-- a list of tenants, as a call is handed it -/
structure RdT (w : World) (A : Option Addr) (n c : Nat) (l : List Ten) : Prop where
  len : n = l.length
  has : HasT w w.heap.size A l
  none : A = Option.none → n = 0 ∧ c = 0
  cap : n ≤ c
  few : n ≤ 12
  fit : ∀ k, k < n → I64 (tg l k).id ∧ I64 (tg l k).par ∧ (tg l k).nm.size ≤ 4000
theorem RdT.next {w w' : World} {A : Option Addr} {n c : Nat} {l : List Ten} (h : RdT w A n c l) (hb : Below w.heap.size w w') : RdT w' A n c l := ⟨h.len, h.has.next hb, h.none, h.cap, h.few, h.fit⟩
theorem RdT.drewN {w : World} {A : Option Addr} {n c : Nat} {l : List Ten} (h : RdT w A n c l) (m : Nat) : RdT (w.drewN m) A n c l := ⟨h.len, h.has.drewN m, h.none, h.cap, h.few, h.fit⟩
theorem RdT.of {t : TypeId} {w : World} {B n c : Nat} {A : Option Addr} {l : List Ten} (h : w.ownsRow B t 3 (.slice A n c) n (cellsT l)) (hn : n ≤ 12) (hf : ∀ k, k < n → I64 (tg l k).id ∧ I64 (tg l k).par ∧ (tg l k).nm.size ≤ 4000) : RdT w A n c l :=
  ⟨(ownT_len h).symm, ownT_read h, ownT_none h, ownT_cap h, hn, hf⟩
theorem may_fit {l : List Ten} (m : MayT l) : ∀ k, k < l.length → I64 (tg l k).id ∧ I64 (tg l k).par ∧ (tg l k).nm.size ≤ 4000 := fun k hk => by
  have q := m.each k hk
  have h1 := m.few
  have h2 := q.id
  have h3 := q.par0
  have h4 := q.par1
  have h5 := q.hi
  unfold I64
  exact ⟨by omega, by omega, by omega⟩
end Go.Proofs.YtjpmglnhnfnmnaaDoor
