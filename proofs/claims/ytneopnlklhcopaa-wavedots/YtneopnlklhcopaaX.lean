/- The law PolyDots: lists of polys are made. -/
import Derived.Test.YtneopnlklhcopaaP1
import Derived.Laws.AppendOwnNone
namespace Go.Proofs.Ytneopnlklhcopaa
open Go.RowKit Slices Go.Proofs.Ytneopnlklhcopaa.Ring

theorem Try.info22 : (Try.prog.info? 22).map (fun i => (i.zero, i.size, i.bytes)) = some (some (.slice none 0 0), 1, 24) := by kernel_rfl

/-- append onto what the call made, whatever is appended -/
theorem append_any {P : Program} (w : World) {ops : Array Oper} {rest : List Oper} {o : Oper} {a : Act} {Q : Exit → Act → World → Prop} (hgd : o.guard = none) (s x : Operand) (t : TypeId)
    (ho : o.op = .call { callee := .builtin .append, args := #[s, x], argTypes := #[t, t] })
    (base : Nat) (e : TypeId) (i : TypeInfo) (z : Value) (size bytes : Nat) (ht : P.underlying t = some (.slice e)) (hi : P.info? e = some i) (hz : i.zero = some z)
    (hsize : i.size = size) (hby : i.bytes = bytes) (hzs : z.cells.size = size) (hsz : 0 < size)
    (v : Value) (n : Nat) (xs : List Value) (hs : a.eval s = v) (hown : w.ownsRow base e size v n xs)
    (ao : Option Addr) (m c : Nat) (news : List Value) (hx : a.eval x = .slice ao m c) (hl : news.length = m * size) (hnone : ao = none → m = 0 ∧ c = 0) (hnews : ∀ ad, ao = some ad → ∀ j u, news[j]? = some u → w.cell? (ad.add j) = some u) (h1 : ∀ u ∈ news, u.oneCell' = true)
    (h63 : n + m ≤ maxLen) (hbytes : (n + m) * bytes ≤ 140737488355328) (hbase : base ≤ w.heap.size)
    (h : ∀ v' w', w'.ownsRow base e size v' (n + m) (xs ++ news) → w.grownBy w' v.ownBlock → wpList P ops Q rest (a.put o.dst v') w') : wpList P ops Q (o :: rest) a w := by
  cases ao with
  | some ad => exact wpList_append_own w hgd s x t ho base e i z size bytes ht hi hz hsize hby hzs hsz v n xs hs hown ad m c news hx hl (hnews ad rfl) h1 h63 hbytes hbase fun v' w' a b _ => h v' w' a b
  | none =>
    obtain ⟨rfl, rfl⟩ := hnone rfl
    have hn : news = [] := List.eq_nil_of_length_eq_zero (by simpa using hl)
    subst hn
    exact wpList_append_own_none hgd s x t ho base e i size ht hi v n xs hs hown hx (h v w (by simpa using hown) (World.grownBy.refl _ _))

def eval (e : Ent) : Value := .slice e.A e.l.length e.c
def Mine3 (B : Nat) (e : Ent) (w : World) : Prop := w.ownsRow B 3 1 (eval e) e.l.length (ints e.l) ∧ IsPoly e.l
/-- a list of polys that the call made -/
def Polys (B : Nat) (v : Value) (es : List Ent) (w : World) : Prop :=
  w.ownsRow B 22 1 v es.length (es.map eval) ∧ ∀ e ∈ es, Mine3 B e w

theorem own_keep {w w' : World} {B t n : Nat} {v : Value} {xs : List Value} (h : w.ownsRow B t 1 v n xs) (hb : Below w.heap.size w w') : w'.ownsRow B t 1 v n xs := by
  refine ⟨h.1, ?_⟩
  rcases h.2 with h' | ⟨g, c, cur, hv, hB, hg, hr⟩
  · exact .inl h'
  · have hlt : g < w.heap.size := (h.lt g (by rw [hv]; rfl)).2
    exact .inr ⟨g, c, cur, hv, hB, (hb.block g hlt).trans hg, hr⟩
theorem Polys.next {B : Nat} {v : Value} {es : List Ent} {w w' : World} (h : Polys B v es w) (hb : Below w.heap.size w w') : Polys B v es w' :=
  ⟨own_keep h.1 hb, fun e he => ⟨own_keep (h.2 e he).1 hb, (h.2 e he).2⟩⟩
/-- rows of unlike numbers never share a block -/
theorem own_ne {w : World} {B B' n m : Nat} {v v' : Value} {xs ys : List Value} (h : w.ownsRow B 3 1 v n xs) (h' : w.ownsRow B' 22 1 v' m ys) : v.ownBlock = none ∨ v.ownBlock ≠ v'.ownBlock := by
  rcases h.2 with ⟨rfl, _⟩ | ⟨g, c, cur, rfl, _, hg, _⟩
  · exact .inl rfl
  · refine .inr fun e => ?_
    rcases h'.2 with ⟨rfl, _⟩ | ⟨g', c', cur', rfl, _, hg', _⟩
    · cases e
    · injection e with e
      have : g = g' := e
      subst this
      rw [hg] at hg'
      simp at hg'
theorem own_base {w : World} {B B' t n : Nat} {v : Value} {xs : List Value} (h : w.ownsRow B t 1 v n xs) (hB : B' ≤ B) : w.ownsRow B' t 1 v n xs := by
  refine ⟨h.1, ?_⟩
  rcases h.2 with h' | ⟨g, c, cur, hv, hb, hr⟩
  · exact .inl h'
  · exact .inr ⟨g, c, cur, hv, Nat.le_trans hB hb, hr⟩
/-- one more poly -/
theorem Polys.push {B : Nat} {v v' : Value} {es : List Ent} {w w3 w4 : World} {e : Ent} (h : Polys B v es w3) (he : Mine3 B e w3) (ha : Below w3.heap.size w3 w) (hg : w.grownBy w4 v.ownBlock)
    (ho : w4.ownsRow B 22 1 v' (es.length + 1) (es.map eval ++ [eval e])) : Polys B v' (es ++ [e]) w4 := by
  have hw := h.next ha
  refine ⟨?_, fun x hx => ?_⟩
  · rw [List.length_append, List.map_append]; exact ho
  · rw [List.mem_append, List.mem_singleton] at hx
    have hm : Mine3 B x w := by
      rcases hx with hx | rfl
      · exact hw.2 x hx
      · exact ⟨own_keep he.1 ha, he.2⟩
    exact ⟨hm.1.kept hg (own_ne hm.1 hw.1), hm.2⟩
theorem Polys.has {B c : Nat} {A : Option Addr} {es : List Ent} {w : World} (h : Polys B (.slice A es.length c) es w) : HasL w w.heap.size A es := by
  intro k hk
  have hx := h.2 _ (List.getElem_mem hk)
  refine ⟨?_, own_read hx.1⟩
  rcases h.1.2 with ⟨hv, h0⟩ | ⟨g, c', cur, hv, _, _⟩
  · omega
  · injection hv with h1 _ h3
    subst h1
    subst h3
    refine ⟨_, rfl, (h.1.lt g rfl).2, ?_⟩
    have := h.1.cellAt k (by omega)
    rw [List.getElem?_map, List.getElem?_eq_getElem hk] at this
    rw [← show (⟨g, k, none⟩ : Addr) = (⟨g, 0, none⟩ : Addr).add k by unfold Addr.add; split <;> simp_all]
    exact this
theorem polys_all {B : Nat} {v : Value} {es : List Ent} {w : World} (h : Polys B v es w) : AllPoly (nums es) := by
  intro k hk
  rw [nums_len] at hk
  rw [nums_at es hk]
  exact (h.2 _ (List.getElem_mem hk)).2
end Go.Proofs.Ytneopnlklhcopaa
