/- Words for slices of integers of any kind: what a slice reads as, what a call made itself. Nothing of the program. -/
import Derived.WalkKit
import Derived.WalkSpells
import Derived.IntWalk
import Derived.Lib.Hide
import Derived.Below
import Derived.Laws.OwnMore
import Derived.OwnWalk
import Derived.ProofKit
import Derived.Deep.QuietTactic
import Derived.BigQuiet
import Derived.StillTailTactics
import Derived.Deep.AppendLies
import Derived.Laws.AppendOwnNone
namespace Go.Proofs.Slices
open Go.RowKit

/-- a slice's values: integers of the kind κ -/
def ints (κ : IntKind) (l : List Int) : List Value := l.map (Value.int κ)
theorem ints_get (κ : IntKind) (l : List Int) (k : Nat) : (ints κ l)[k]? = l[k]?.map (Value.int κ) := by simp [ints]
theorem ints_at {κ : IntKind} {l : List Int} {k : Nat} (h : k < l.length) : (ints κ l)[k]? = some (.int κ (l.getD k 0)) := by
  rw [ints_get, List.getElem?_eq_getElem h, List.getD_eq_getElem?_getD, List.getElem?_eq_getElem h]; rfl
theorem ints_length (κ : IntKind) (l : List Int) : (ints κ l).length = l.length := by simp [ints]
theorem ints_set (κ : IntKind) (l : List Int) (i : Nat) (x : Int) : (ints κ l).set i (.int κ x) = ints κ (l.set i x) := by simp [ints, List.map_set]
theorem ints_app (κ : IntKind) (l m : List Int) : ints κ (l ++ m) = ints κ l ++ ints κ m := by simp [ints]
theorem ints_snoc (κ : IntKind) (l : List Int) (x : Int) : ints κ l ++ [.int κ x] = ints κ (l ++ [x]) := by simp [ints]
theorem ints_one (κ : IntKind) (l : List Int) : ∀ u ∈ ints κ l, u.oneCell' = true := ints_oneCell κ l
theorem made_ints (κ : IntKind) (N : Nat) : (madeCells (Value.int κ 0).cells (N * 1)).toList = ints κ (List.replicate N 0) := by
  rw [Nat.mul_one]
  show (madeCells #[Value.int κ 0] N).toList = _
  rw [toList_madeCells_one]; simp [ints]

/-- the slice at A reads as l; its cells lie below block B -/
def Has (κ : IntKind) (w : World) (B : Nat) (A : Option Addr) (l : List Int) : Prop :=
  ∀ k, k < l.length → ∃ a : Addr, A = some a ∧ a.block < B ∧ w.cell? (a.add k) = some (.int κ (l.getD k 0))

theorem add_block (a : Addr) (n : Nat) : (a.add n).block = a.block := by unfold Addr.add; split <;> rfl
theorem Has.keep {κ : IntKind} {w w' : World} {B : Nat} {A : Option Addr} {l : List Int} (h : Has κ w B A l) (hk : ∀ p : Addr, p.block < B → w'.cell? p = w.cell? p) : Has κ w' B A l := fun k hl => by
  obtain ⟨a, e, hb, hc⟩ := h k hl
  exact ⟨a, e, hb, (hk _ (by rw [add_block]; exact hb)).trans hc⟩
theorem Has.below {κ : IntKind} {w w' : World} {B : Nat} {A : Option Addr} {l : List Int} (h : Has κ w B A l) (hb : Below B w w') : Has κ w' B A l := h.keep fun _ hp => hb.cell hp
theorem Has.drewN {κ : IntKind} {w : World} {B : Nat} {A : Option Addr} {l : List Int} (h : Has κ w B A l) (n : Nat) : Has κ (w.drewN n) B A l := h
theorem Has.mono {κ : IntKind} {w : World} {B B' : Nat} {A : Option Addr} {l : List Int} (h : Has κ w B A l) (hB : B ≤ B') : Has κ w B' A l := fun k hl => by
  obtain ⟨a, e, hb, hc⟩ := h k hl
  exact ⟨a, e, by omega, hc⟩
theorem Has.nil (κ : IntKind) (w : World) (B : Nat) (A : Option Addr) : Has κ w B A [] := fun k hk => by cases hk
theorem Has.addr {κ : IntKind} {w : World} {B : Nat} {A : Option Addr} {l : List Int} (h : Has κ w B A l) (hl : 0 < l.length) :
    ∃ a : Addr, A = some a ∧ a.block < B ∧ ∀ j u, (ints κ l)[j]? = some u → w.cell? (a.add j) = some u := by
  obtain ⟨a, e, hb, _⟩ := h 0 hl
  refine ⟨a, e, hb, fun j u hu => ?_⟩
  have hj : j < l.length := by
    rw [← ints_length κ l]
    exact (List.getElem?_eq_some_iff.mp hu).1
  obtain ⟨a', e', _, hc⟩ := h j hj
  rw [ints_at hj] at hu
  rw [e] at e'
  injection e' with e'
  subst e'
  rw [hc, hu]
theorem Has.cells {κ : IntKind} {w : World} {B : Nat} {A : Option Addr} {l : List Int} (h : Has κ w B A l) : ∀ ad, A = some ad → ∀ j u, (ints κ l)[j]? = some u → w.cell? (ad.add j) = some u := by
  intro ad e j u hu
  by_cases h0 : 0 < l.length
  · obtain ⟨a1, e1, _, h1⟩ := h.addr h0
    rw [e] at e1
    injection e1 with e1
    subst e1
    exact h1 j u hu
  · have : j < (ints κ l).length := (List.getElem?_eq_some_iff.mp hu).1
    rw [ints_length] at this
    omega
theorem getD_take (l : List Int) (n k : Nat) (h : k < n) : (l.take n).getD k 0 = l.getD k 0 := by
  rw [List.getD_eq_getElem?_getD, List.getD_eq_getElem?_getD, List.getElem?_take_of_lt h]
/-- the first n of what a slice reads as -/
theorem Has.take {κ : IntKind} {w : World} {B : Nat} {A : Option Addr} {l : List Int} (h : Has κ w B A l) (n : Nat) : Has κ w B A (l.take n) := fun k hk => by
  rw [List.length_take] at hk
  obtain ⟨a, e, hb, hc⟩ := h k (by omega)
  exact ⟨a, e, hb, by rw [getD_take l n k (by omega)]; exact hc⟩

theorem quiet_eq {P : Program} {f : FuncId} {args : Array Value} {w : World} {n : Nat} {v : Value}
    (h : Calls P f args (w.drewN n) fun e w' => e = .returned v ∧ w.drewN n = w') : Calls P f args (w.drewN n) fun e w'' => e = .returned v ∧ ∃ m, w'' = w.drewN m :=
  h.mono fun _ _ ⟨he, hm⟩ => ⟨he, n, hm.symm⟩
theorem still_eq {P : Program} {f : FuncId} {args : Array Value} {w : World} {v : Value}
    (h : Calls P f args w fun e w' => e = .returned v ∧ w = w') : Calls P f args w fun e w'' => e = .returned v ∧ w'' = w :=
  h.mono fun _ _ ⟨he, hm⟩ => ⟨he, hm.symm⟩
theorem below_drewN {B : Nat} {a w : World} (h : Below B a w) (n : Nat) : Below B a (w.drewN n) := ⟨h.os, h.tape, h.output, h.size, h.block⟩

theorem own_cell {κ : IntKind} {t : TypeId} {w : World} {base g n c : Nat} {l : List Int} (h : w.ownsRow base t 1 (.slice (some ⟨g, 0, none⟩) n c) n (ints κ l)) {k : Nat} (hk : k < n) :
    w.cell? ⟨g, k, none⟩ = some (.int κ (l.getD k 0)) := by
  have hl : l.length = n := by have := h.1; rw [ints_length] at this; omega
  rw [h.cellAt k (by omega), ints_at (by omega)]
theorem own_len {κ : IntKind} {t : TypeId} {w : World} {base n : Nat} {v : Value} {l : List Int} (h : w.ownsRow base t 1 v n (ints κ l)) : l.length = n := by
  have := h.1; rw [ints_length] at this; omega
theorem own_set {κ : IntKind} {t : TypeId} {w : World} {base g n c : Nat} {l : List Int} (h : w.ownsRow base t 1 (.slice (some ⟨g, 0, none⟩) n c) n (ints κ l)) (k : Nat) (x : Int) :
    (w.setCell ⟨g, k, none⟩ (.int κ x)).ownsRow base t 1 (.slice (some ⟨g, 0, none⟩) n c) n (ints κ (l.set k x)) := by
  have := (h.stored k (.int κ x)).1
  rwa [ints_set] at this
theorem own_block {t : TypeId} {w : World} {base g n c : Nat} {xs : List Value} (h : w.ownsRow base t 1 (.slice (some ⟨g, 0, none⟩) n c) n xs) : base ≤ g ∧ g < w.heap.size :=
  h.lt g rfl
theorem own_has {κ : IntKind} {t : TypeId} {w : World} {base g n c : Nat} {l : List Int} (h : w.ownsRow base t 1 (.slice (some ⟨g, 0, none⟩) n c) n (ints κ l)) : Has κ w w.heap.size (some ⟨g, 0, none⟩) l := fun k hk => by
  refine ⟨_, rfl, (own_block h).2, ?_⟩
  have := own_cell h (k := k) (by rw [← own_len h]; exact hk)
  rw [← this]
  congr 1
  unfold Addr.add
  split
  · simp
  · simp
theorem own_form {t : TypeId} {w : World} {base n : Nat} {v : Value} {xs : List Value} (h : w.ownsRow base t 1 v n xs) (hn : 0 < n) : ∃ g c, v = .slice (some ⟨g, 0, none⟩) n c ∧ base ≤ g := by
  rcases h.2 with ⟨_, h0⟩ | ⟨g, c, cur, hv, hb, _⟩
  · omega
  · exact ⟨g, c, hv, hb⟩
/-- what the call made is a slice, with or without a place -/
theorem own_slice {t : TypeId} {w : World} {base n : Nat} {v : Value} {xs : List Value} (h : w.ownsRow base t 1 v n xs) : ∃ A c, v = .slice A n c := by
  rcases h.2 with ⟨hv, rfl⟩ | ⟨g, c, cur, hv, hb, _⟩
  · exact ⟨none, 0, hv⟩
  · exact ⟨_, c, hv⟩
theorem own_none {t : TypeId} {w : World} {base n c : Nat} {A : Option Addr} {xs : List Value} (h : w.ownsRow base t 1 (.slice A n c) n xs) (hA : A = none) : n = 0 ∧ c = 0 := by
  subst hA
  rcases h.2 with ⟨hv, rfl⟩ | ⟨g, c', cur, hv, hb, _⟩
  · injection hv with _ _ h3
    exact ⟨rfl, h3⟩
  · injection hv with h1
    cases h1
theorem own_spare {t : TypeId} {w : World} {B g m c : Nat} {xs : List Value} (h : w.ownsRow B t 1 (.slice (some ⟨g, 0, none⟩) m c) m xs) {k : Nat} (hk : k < c) : ∃ v0, w.cell? ⟨g, k, none⟩ = some v0 := by
  rcases h.2 with ⟨h', _⟩ | ⟨g', c', cur, h', _, hg, _, _, hcs, _⟩
  · simp at h'
  · simp only [Value.slice.injEq, Option.some.injEq, Addr.mk.injEq, and_true, true_and] at h'
    obtain ⟨rfl, rfl⟩ := h'
    rw [cell_of_row w g k cur t (0, 0) hg, Array.getElem?_eq_getElem (by omega)]
    exact ⟨_, rfl⟩
theorem own_push {t : TypeId} {w : World} {B g m c : Nat} {xs : List Value} (h : w.ownsRow B t 1 (.slice (some ⟨g, 0, none⟩) m c) m xs) (hm : m < c) (u : Value) :
    (w.setCell ⟨g, m, none⟩ u).ownsRow B t 1 (.slice (some ⟨g, 0, none⟩) (m + 1) c) (m + 1) (xs ++ [u]) := by
  have hl := h.1
  rcases h.2 with ⟨h', _⟩ | ⟨g', c', cur, h', hb, hg, hnc, hcm, hcs, htake⟩
  · simp at h'
  · simp only [Value.slice.injEq, Option.some.injEq, Addr.mk.injEq, and_true, true_and] at h'
    obtain ⟨rfl, rfl⟩ := h'
    refine ⟨by rw [List.length_append, hl]; simp, .inr ⟨g, c, cur.setIfInBounds m u, rfl, hb, heap_setCell_same w g m cur t u hg, by omega, hcm, by simpa using hcs, ?_⟩⟩
    rw [Array.toList_setIfInBounds, Nat.mul_one, List.take_succ_eq_append_getElem (by rw [List.length_set, Array.length_toList, hcs]; omega), List.take_set, List.getElem_set_self]
    rw [Nat.mul_one] at htake
    rw [htake, List.set_eq_of_length_le (by rw [hl]; omega)]
/-- fewer of what is owned -/
theorem own_less {κ : IntKind} {t : TypeId} {w : World} {B g m c n : Nat} {l l' : List Int} (h : w.ownsRow B t 1 (.slice (some ⟨g, 0, none⟩) m c) m (ints κ (l ++ l'))) (hn : l.length = n) : w.ownsRow B t 1 (.slice (some ⟨g, 0, none⟩) n c) n (ints κ l) := by
  have hl := own_len h
  rw [List.length_append] at hl
  rcases h.2 with ⟨h', _⟩ | ⟨g', c', cur, h', hb, hg, hnc, hcm, hcs, htake⟩
  · simp at h'
  · simp only [Value.slice.injEq, Option.some.injEq, Addr.mk.injEq, and_true, true_and] at h'
    obtain ⟨rfl, rfl⟩ := h'
    refine ⟨by rw [ints_length]; omega, .inr ⟨g, c, cur, rfl, hb, hg, by omega, hcm, hcs, ?_⟩⟩
    have : cur.toList.take (n * 1) = (cur.toList.take (m * 1)).take (n * 1) := by rw [List.take_take]; congr 1; omega
    rw [this, htake]
    unfold ints
    rw [List.map_append, List.take_left' (by rw [List.length_map]; omega)]

/-- a list is told: none, or a slice of the call's own -/
def Res (κ : IntKind) (t : TypeId) (w : World) (l : List Int) (e : Ending) (w' : World) : Prop :=
  ∃ A c, e = .returned (.slice A l.length c) ∧ w'.ownsRow w.heap.size t 1 (.slice A l.length c) l.length (ints κ l) ∧ Below w.heap.size w w'
theorem res_nil {κ : IntKind} {t : TypeId} {w w' : World} {e : Ending} (he : e = .returned (.slice none 0 0)) (hb : Below w.heap.size w w') : Res κ t w [] e w' :=
  ⟨none, 0, he, World.ownsRow_nil _ _ _ _, hb⟩
theorem res_of {κ : IntKind} {t : TypeId} {w w' : World} {v : Value} {n : Nat} {l : List Int} (h : w'.ownsRow w.heap.size t 1 v n (ints κ l)) (hb : Below w.heap.size w w') : Res κ t w l (.returned v) w' := by
  have hl := own_len h
  subst hl
  obtain ⟨A, c, rfl⟩ := own_slice h
  exact ⟨A, c, rfl, h, hb⟩
theorem has_next {κ : IntKind} {w w' : World} {A : Option Addr} {l : List Int} (h : Has κ w w.heap.size A l) (hb : Below w.heap.size w w') : Has κ w' w'.heap.size A l := (h.below hb).mono hb.size
theorem own_next {t : TypeId} {w w' : World} {B n : Nat} {v : Value} {xs : List Value} (h : w.ownsRow B t 1 v n xs) (hb : Below w.heap.size w w') : w'.ownsRow B t 1 v n xs := by
  refine ⟨h.1, ?_⟩
  rcases h.2 with h' | ⟨g, c, cur, hv, hB, hg, hr⟩
  · exact .inl h'
  · have hlt : g < w.heap.size := (h.lt g (by rw [hv]; rfl)).2
    exact .inr ⟨g, c, cur, hv, hB, (hb.block g hlt).trans hg, hr⟩
theorem own_read {κ : IntKind} {t : TypeId} {w : World} {B c : Nat} {A : Option Addr} {l : List Int} (h : w.ownsRow B t 1 (.slice A l.length c) l.length (ints κ l)) : Has κ w w.heap.size A l := by
  rcases h.2 with ⟨_, h0⟩ | ⟨g, c', cur, hv, _⟩
  · intro k hk; omega
  · injection hv with h1 h2 h3
    subst h1
    subst h3
    exact own_has h
theorem below_next {w0 w w' : World} (h : Below w0.heap.size w0 w) (hb : Below w.heap.size w w') : Below w0.heap.size w0 w' := h.trans (hb.mono h.size)
theorem grown_by_trans {a b c : World} {row : Option Nat} (h : a.grownBy b row) (k : b.grownBy c row) : a.grownBy c row :=
  ⟨k.os.trans h.os, k.tape.trans h.tape, k.output.trans h.output, Nat.le_trans h.size k.size, fun i hi hr => (k.block i (Nat.lt_of_lt_of_le hi h.size) hr).trans (h.block i hi hr)⟩

/-- append onto what the call made, whatever is appended -/
theorem append_any {P : Program} (w : World) {ops : Array Oper} {rest : List Oper} {o : Oper} {a : Act} {Q : Exit → Act → World → Prop} (hgd : o.guard = none) (s x : Operand) (t : TypeId)
    (ho : o.op = .call { callee := .builtin .append, args := #[s, x], argTypes := #[t, t] })
    (base : Nat) (e : TypeId) (i : TypeInfo) (z : Value) (size bytes : Nat) (ht : P.underlying t = some (.slice e)) (hi : P.info? e = some i) (hz : i.zero = some z)
    (hsize : i.size = size) (hby : i.bytes = bytes) (hzs : z.cells.size = size) (hsz : 0 < size)
    (v : Value) (n : Nat) (xs : List Value) (hs : a.eval s = v) (hown : w.ownsRow base e size v n xs)
    (ao : Option Addr) (m c : Nat) (news : List Value) (hx : a.eval x = .slice ao m c) (hl : news.length = m * size) (hnone : ao = none → m = 0 ∧ c = 0) (hnews : ∀ ad, ao = some ad → ∀ j u, news[j]? = some u → w.cell? (ad.add j) = some u) (h1 : ∀ u ∈ news, u.oneCell' = true)
    (h63 : n + m ≤ maxLen) (hbytes : (n + m) * bytes ≤ 140737488355328) (hbase : base ≤ w.heap.size)
    (h : ∀ v' w', w'.ownsRow base e size v' (n + m) (xs ++ news) → w.grownBy w' v.ownBlock → wpList P ops Q rest (a.put o.dst v') w') : wpList P ops Q (o :: rest) a w := by
  cases ao with
  | some ad => exact wpList_append_own w hgd s x t ho base e i z size bytes ht hi hz hsize hby hzs hsz v n xs hs hown ad m c news hx hl (hnews ad rfl) h1 h63 hbytes hbase fun v' w' a b _ => h v' w' a b
  | none =>
    obtain ⟨rfl, rfl⟩ := hnone rfl
    have hn : news = [] := List.eq_nil_of_length_eq_zero (by simpa using hl)
    subst hn
    exact wpList_append_own_none hgd s x t ho base e i size ht hi v n xs hs hown hx (h v w (by simpa using hown) (World.grownBy.refl _ _))

/-- what the call made itself: a slice that reads as l, in a block from B on -/
def Mine (κ : IntKind) (t : TypeId) (B : Nat) (A : Option Addr) (c : Nat) (l : List Int) (w : World) : Prop := w.ownsRow B t 1 (.slice A l.length c) l.length (ints κ l) ∧ B ≤ w.heap.size
theorem Mine.next {κ : IntKind} {t : TypeId} {B c : Nat} {A : Option Addr} {l : List Int} {w w' : World} (h : Mine κ t B A c l w) (hb : Below w.heap.size w w') : Mine κ t B A c l w' := ⟨own_next h.1 hb, Nat.le_trans h.2 hb.size⟩
theorem Mine.read {κ : IntKind} {t : TypeId} {B c : Nat} {A : Option Addr} {l : List Int} {w : World} (h : Mine κ t B A c l w) : Has κ w w.heap.size A l := own_read h.1
theorem Mine.of {κ : IntKind} {t : TypeId} {w w' : World} {c : Nat} {A : Option Addr} {l : List Int} (h : w'.ownsRow w.heap.size t 1 (.slice A l.length c) l.length (ints κ l)) (hb : Below w.heap.size w w') : Mine κ t w.heap.size A c l w' := ⟨h, hb.size⟩
/-- where a slice lies: its block, or none -/
def Lies (A : Option Addr) (lo hi : Nat) : Prop := ∀ a, A = some a → lo ≤ a.block ∧ a.block < hi
theorem Mine.lies {κ : IntKind} {t : TypeId} {B c : Nat} {A : Option Addr} {l : List Int} {w : World} (h : Mine κ t B A c l w) : Lies A B w.heap.size := fun a e => by
  subst e
  exact h.1.lt a.block rfl
theorem Mine.kept {κ : IntKind} {t : TypeId} {B c lo hi : Nat} {A A' : Option Addr} {l : List Int} {w w' : World} {n' c' : Nat} (h : Mine κ t B A c l w) (hg : w.grownBy w' (Value.slice A' n' c').ownBlock) (hl : Lies A' lo hi) (hB : hi ≤ B) : Mine κ t B A c l w' := by
  refine ⟨h.1.kept hg ?_, Nat.le_trans h.2 hg.size⟩
  rcases A with _ | a
  · exact .inl rfl
  · refine .inr fun e => ?_
    rcases A' with _ | a'
    · cases e
    · have h1 := (h.lies a rfl).1
      have h2 := (hl a' rfl).2
      injection e with e
      omega
/-- a world that grew at a row of the call's own, seen from below that row -/
theorem below_of_grown {w w' : World} {A : Option Addr} {n c lo hi : Nat} (hg : w.grownBy w' (Value.slice A n c).ownBlock) (hl : Lies A lo hi) (hlo : lo ≤ w.heap.size) : Below lo w w' := by
  refine (Below.refl lo w).grown hg hlo fun k hk => ?_
  rcases A with _ | a1
  · cases hk
  · injection hk with hk
    have := (hl a1 rfl).1
    omega
end Go.Proofs.Slices
