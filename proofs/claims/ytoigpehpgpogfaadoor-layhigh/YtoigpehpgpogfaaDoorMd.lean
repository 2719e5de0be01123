/- Lists of lists that a call made; hints that are read leniently. -/
import Derived.Test.YtoigpehpgpogfaaDoorMc
namespace Go.Proofs.YtoigpehpgpogfaaDoor
open Go.RowKit Slices Go.Proofs.YtoigpehpgpogfaaDoor.Bit

theorem Tryd.infoInts : (Tryd.prog.info? 22).map (fun i => (i.zero, i.size, i.bytes)) = some (some (.slice none 0 0), 1, 24) := by kernel_rfl
def eval (e : Ent) : Value := .slice e.A e.l.length e.c
def Mine3 (B : Nat) (e : Ent) (w : World) : Prop := w.ownsRow B 3 1 (eval e) e.l.length (ints .i64 e.l)
/-- a list of lists that the call made -/
def OwnL (B : Nat) (v : Value) (es : List Ent) (w : World) : Prop :=
  w.ownsRow B 22 1 v es.length (es.map eval) ∧ ∀ e ∈ es, Mine3 B e w

theorem own_keep {w w' : World} {B t n : Nat} {v : Value} {xs : List Value} (h : w.ownsRow B t 1 v n xs) (hb : Below w.heap.size w w') : w'.ownsRow B t 1 v n xs := by
  refine ⟨h.1, ?_⟩
  rcases h.2 with h' | ⟨g, c, cur, hv, hB, hg, hr⟩
  · exact .inl h'
  · have hlt : g < w.heap.size := (h.lt g (by rw [hv]; rfl)).2
    exact .inr ⟨g, c, cur, hv, hB, (hb.block g hlt).trans hg, hr⟩
theorem OwnL.next {B : Nat} {v : Value} {es : List Ent} {w w' : World} (h : OwnL B v es w) (hb : Below w.heap.size w w') : OwnL B v es w' :=
  ⟨own_keep h.1 hb, fun e he => own_keep (h.2 e he) hb⟩
/-- rows of unlike numbers never share a block -/
theorem own_ne {w : World} {B B' n m : Nat} {v v' : Value} {xs ys : List Value} (h : w.ownsRow B 3 1 v n xs) (h' : w.ownsRow B' 22 1 v' m ys) : v.ownBlock = none ∨ v.ownBlock ≠ v'.ownBlock := by
  rcases h.2 with ⟨rfl, _⟩ | ⟨g, c, cur, rfl, _, hg, _⟩
  · exact .inl rfl
  · refine .inr fun e => ?_
    rcases h'.2 with ⟨rfl, _⟩ | ⟨g', c', cur', rfl, _, hg', _⟩
    · cases e
    · injection e with e
      have : g = g' := e
      subst this
      rw [hg] at hg'
      simp at hg'
/-- one more poly -/
theorem OwnL.push {B : Nat} {v v' : Value} {es : List Ent} {w w3 w4 : World} {e : Ent} (h : OwnL B v es w3) (he : Mine3 B e w3) (ha : Below w3.heap.size w3 w) (hg : w.grownBy w4 v.ownBlock)
    (ho : w4.ownsRow B 22 1 v' (es.length + 1) (es.map eval ++ [eval e])) : OwnL B v' (es ++ [e]) w4 := by
  have hw := h.next ha
  refine ⟨?_, fun x hx => ?_⟩
  · rw [List.length_append, List.map_append]; exact ho
  · rw [List.mem_append, List.mem_singleton] at hx
    have hm : Mine3 B x w := by
      rcases hx with hx | rfl
      · exact hw.2 x hx
      · exact own_keep he ha
    exact hm.kept hg (own_ne hm hw.1)
theorem OwnL.has {B c : Nat} {A : Option Addr} {es : List Ent} {w : World} (h : OwnL B (.slice A es.length c) es w) : HasL w w.heap.size A es := by
  intro k hk
  have hx := h.2 _ (List.getElem_mem hk)
  refine ⟨?_, own_read hx⟩
  rcases h.1.2 with ⟨hv, h0⟩ | ⟨g, c', cur, hv, _, _⟩
  · omega
  · injection hv with h1 _ h3
    subst h1
    subst h3
    refine ⟨_, rfl, (h.1.lt g rfl).2, ?_⟩
    have := h.1.cellAt k (by omega)
    rw [List.getElem?_map, List.getElem?_eq_getElem hk] at this
    rw [← show (⟨g, k, none⟩ : Addr) = (⟨g, 0, none⟩ : Addr).add k by unfold Addr.add; split <;> simp_all]
    exact this

/-- ones at the places that c bytes from lo on name -/
def mark (b : List Int) (lo : Nat) : Nat → List Int
  | 0 => List.replicate 256 0
  | c + 1 => (mark b lo c).set (b.getD (lo + c) 0).toNat 1
theorem mark_len (b : List Int) (lo : Nat) : ∀ c, (mark b lo c).length = 256 := by
  intro c
  induction c with
  | zero => exact List.length_replicate
  | succ c ih => show (List.set _ _ _).length = 256; rw [List.length_set, ih]
/-- where the places of the first i polys end -/
def endAt (W : Nat) (b : List Int) : Nat → Nat
  | 0 => 0
  | i + 1 => max (endAt W b i) (min W (b.getD (W + i) 0).toNat)
theorem endAt_le (W : Nat) (b : List Int) : ∀ i, endAt W b i ≤ W := by
  intro i
  induction i with
  | zero => exact Nat.zero_le _
  | succ i ih => show max _ _ ≤ W; omega
def readP (W : Nat) (b : List Int) (i : Nat) : List Int := mark b (endAt W b i) (endAt W b (i + 1) - endAt W b i)
def readL (W : Nat) (b : List Int) (K : Nat) : List (List Int) := (List.range K).map (readP W b)
theorem readL_len (W : Nat) (b : List Int) (K : Nat) : (readL W b K).length = K := by simp [readL]
theorem readL_succ (W : Nat) (b : List Int) (K : Nat) : readL W b (K + 1) = readL W b K ++ [readP W b K] := by
  unfold readL
  rw [List.range_succ, List.map_append]; rfl
end Go.Proofs.YtoigpehpgpogfaaDoor
