/- Keys as data, as the chapter reckons with them. Nothing of the program. -/
import Derived.RowKit
namespace Go.Proofs.YtealebeacddbbaaDoor

/-- a version: its number, how it stands, when it goes, its seed -/
structure Ver where
  n : Int
  st : Int
  due : Int
  seed : List Int
def ver0 : Ver := ⟨0, 0, 0, []⟩
structure KeyV where
  id : Int
  ten : Int
  set : Int
  vs : List Ver
def key0 : KeyV := ⟨0, 0, 0, []⟩
/-- the version at place k -/
def vg (l : List Ver) (k : Nat) : Ver := l.getD k ver0
theorem vg_set {l : List Ver} {i : Nat} {v : Ver} (h : i < l.length) (k : Nat) : vg (l.set i v) k = if k = i then v else vg l k := by
  unfold vg
  rw [List.getD_eq_getElem?_getD, List.getD_eq_getElem?_getD, List.getElem?_set]
  by_cases e : i = k
  · subst e; simp [h]
  · rw [if_neg e, if_neg (fun q => e q.symm)]
theorem vg_ext {l m : List Ver} (hl : l.length = m.length) (h : ∀ k, k < l.length → vg l k = vg m k) : l = m := by
  apply List.ext_getElem hl
  intro i h1 h2
  have e := h i h1
  unfold vg at e
  rw [List.getD_eq_getElem?_getD, List.getElem?_eq_getElem h1, List.getD_eq_getElem?_getD, List.getElem?_eq_getElem h2] at e
  exact e

/-- a version that may stand at place i -/
structure MayV (v : Ver) (i : Nat) : Prop where
  n : v.n = (i : Int) + 1
  st1 : 1 ≤ v.st
  st4 : v.st ≤ 4
  gone : v.st = 4 → v.seed.length = 0
  live : v.st ≠ 4 → v.seed.length = 64
  doom : v.st = 3 → 1 ≤ v.due ∧ v.due ≤ 1099511627776
  rest : v.st ≠ 3 → v.due = 0
/-- a key that may be -/
structure MayK (K : KeyV) : Prop where
  id1 : 1 ≤ K.id
  id6 : K.id ≤ 6
  ten1 : 1 ≤ K.ten
  ten8 : K.ten ≤ 8
  set1 : 1 ≤ K.set
  set3 : K.set ≤ 3
  some : 1 ≤ K.vs.length
  few : K.vs.length ≤ 5
  each : ∀ i, i < K.vs.length → MayV (vg K.vs i) i
/-- the key whose version at place i stands so, and goes then -/
def putK (K : KeyV) (i : Nat) (st due : Int) : KeyV := { K with vs := K.vs.set i { vg K.vs i with st := st, due := due } }
theorem put_len (K : KeyV) (i : Nat) (st due : Int) : (putK K i st due).vs.length = K.vs.length := by simp [putK]
theorem put_at {K : KeyV} {i : Nat} (h : i < K.vs.length) (st due : Int) : vg (putK K i st due).vs i = { vg K.vs i with st := st, due := due } := by
  show vg (K.vs.set i _) i = _
  rw [vg_set h, if_pos rfl]
theorem put_put {K : KeyV} {i : Nat} (h : i < K.vs.length) (st due st' due' : Int) : putK (putK K i st due) i st' due' = putK K i st' due' := by
  unfold putK
  simp only
  congr 1
  rw [vg_set h, if_pos rfl, List.set_set]
theorem put_self {K : KeyV} {i : Nat} (h : i < K.vs.length) : putK K i (vg K.vs i).st (vg K.vs i).due = K := by
  obtain ⟨a, b, c, l⟩ := K
  unfold putK
  simp only
  congr 1
  refine vg_ext (by simp) fun k hk => ?_
  rw [vg_set h]
  by_cases e : k = i
  · subst e; rw [if_pos rfl]
  · rw [if_neg e]
theorem put_may {K : KeyV} (m : MayK K) {i : Nat} (h : i < K.vs.length) {st due : Int} (s1 : 1 ≤ st) (s3 : st ≤ 3) (hl : (vg K.vs i).st ≠ 4) (d3 : st = 3 → 1 ≤ due ∧ due ≤ 1099511627776) (d0 : st ≠ 3 → due = 0) : MayK (putK K i st due) := by
  refine ⟨m.id1, m.id6, m.ten1, m.ten8, m.set1, m.set3, by rw [put_len]; exact m.some, by rw [put_len]; exact m.few, fun k hk => ?_⟩
  rw [put_len] at hk
  show MayV (vg (K.vs.set i _) k) k
  rw [vg_set h]
  by_cases e : k = i
  · subst e
    rw [if_pos rfl]
    have q := m.each k h
    exact ⟨q.n, s1, by show st ≤ 4; omega, fun e => absurd e (by show ¬ st = 4; omega), fun _ => q.live hl, d3, d0⟩
  · rw [if_neg e]; exact m.each k hk
/-- from which state an op goes, and to which -/
def From (op st : Int) : Prop := (op = 5 ∧ st = 2) ∨ (op = 6 ∧ st = 1) ∨ (op = 7 ∧ (st = 1 ∨ st = 2)) ∨ (op = 8 ∧ st = 3)
def toS (op : Int) : Int := if op = 5 then 1 else if op = 7 then 3 else 2
def dueS (op till : Int) : Int := if op = 7 then till else 0
/-- what bars a change of a version, or 0; and what the key is then -/
inductive SetT (K : KeyV) (op n till clock : Int) : Int → KeyV → Prop
  | arg : ¬ (MayK K ∧ 5 ≤ op ∧ op ≤ 8) → SetT K op n till clock 2 key0
  | none : MayK K ∧ 5 ≤ op ∧ op ≤ 8 → ¬ (1 ≤ n ∧ n ≤ (K.vs.length : Int)) → SetT K op n till clock 9 key0
  | state : MayK K ∧ 5 ≤ op ∧ op ≤ 8 → (1 ≤ n ∧ n ≤ (K.vs.length : Int)) → ¬ From op (vg K.vs (n - 1).toNat).st → SetT K op n till clock 11 key0
  | late : MayK K ∧ 5 ≤ op ∧ op ≤ 8 → (1 ≤ n ∧ n ≤ (K.vs.length : Int)) → From op (vg K.vs (n - 1).toNat).st → op = 7 ∧ ¬ (clock < till ∧ 1 ≤ till ∧ till ≤ 1099511627776) → SetT K op n till clock 2 key0
  | yes : MayK K ∧ 5 ≤ op ∧ op ≤ 8 → (1 ≤ n ∧ n ≤ (K.vs.length : Int)) → From op (vg K.vs (n - 1).toNat).st → (op = 7 → clock < till ∧ 1 ≤ till ∧ till ≤ 1099511627776) → SetT K op n till clock 0 (putK K (n - 1).toNat (toS op) (dueS op till))
theorem set_one {K : KeyV} {op n till clock k k' : Int} {X X' : KeyV} (h : SetT K op n till clock k X) (g : SetT K op n till clock k' X') : k = k' ∧ X = X' := by
  cases h <;> cases g <;> first | exact ⟨rfl, rfl⟩ | (exfalso; first | contradiction | (rename_i a b c d e f g; first | (exact d.2 (g d.1)) | contradiction) | (rename_i a b c d e f g h; first | exact d.2 (h d.1) | exact h.2 (d h.1)))
end Go.Proofs.YtealebeacddbbaaDoor
