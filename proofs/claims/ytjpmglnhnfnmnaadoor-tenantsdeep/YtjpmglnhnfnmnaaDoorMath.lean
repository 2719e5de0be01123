/- Tenants, as the chapter reckons with them. Nothing of the program. -/
import Derived.RowKit
namespace Go.Proofs.YtjpmglnhnfnmnaaDoor

/-- a tenant: its number, its parent's, its name -/
structure Ten where
  id : Int
  par : Int
  nm : ByteArray
def ten0 : Ten := ⟨0, 0, ByteArray.empty⟩
/-- the one at place k -/
def tg (l : List Ten) (k : Nat) : Ten := l.getD k ten0
theorem tg_left {l r : List Ten} {k : Nat} (h : k < l.length) : tg (l ++ r) k = tg l k := by
  unfold tg
  rw [List.getD_eq_getElem?_getD, List.getElem?_append_left h, ← List.getD_eq_getElem?_getD]
theorem tg_new (l : List Ten) (x : Ten) : tg (l ++ [x]) l.length = x := by
  unfold tg
  rw [List.getD_eq_getElem?_getD, List.getElem?_append_right (Nat.le_refl _), Nat.sub_self]; rfl

/-- one that may stand at place i behind those ahead -/
structure MayAt (l : List Ten) (i : Nat) (t : Ten) : Prop where
  id : t.id = (i : Int) + 1
  lo : 1 ≤ t.nm.size
  hi : t.nm.size ≤ 300
  root : t.par = 0 ↔ i = 0
  par0 : 0 ≤ t.par
  par1 : t.par ≤ (i : Int)
  apart : ∀ k, k < i → ¬ ((tg l k).par = t.par ∧ (tg l k).nm = t.nm)
/-- a list that may be -/
structure MayT (l : List Ten) : Prop where
  few : l.length ≤ 8
  each : ∀ i, i < l.length → MayAt l i (tg l i)
def ChildT (l : List Ten) (p : Int) (nm : ByteArray) : Prop := ∃ k, k < l.length ∧ (tg l k).par = p ∧ (tg l k).nm = nm
/-- what bars one more, or 0 -/
inductive AddT (l : List Ten) (p : Int) (nm : ByteArray) : Int → Prop
  | arg : ¬ MayT l → AddT l p nm 2
  | none : MayT l → ¬ (1 ≤ p ∧ p ≤ (l.length : Int)) → AddT l p nm 9
  | name : MayT l → (1 ≤ p ∧ p ≤ (l.length : Int)) → ¬ (1 ≤ nm.size ∧ nm.size ≤ 300) → AddT l p nm 2
  | twice : MayT l → (1 ≤ p ∧ p ≤ (l.length : Int)) → (1 ≤ nm.size ∧ nm.size ≤ 300) → ChildT l p nm → AddT l p nm 13
  | full : MayT l → (1 ≤ p ∧ p ≤ (l.length : Int)) → (1 ≤ nm.size ∧ nm.size ≤ 300) → ¬ ChildT l p nm → 8 ≤ l.length → AddT l p nm 12
  | yes : MayT l → (1 ≤ p ∧ p ≤ (l.length : Int)) → (1 ≤ nm.size ∧ nm.size ≤ 300) → ¬ ChildT l p nm → l.length < 8 → AddT l p nm 0
theorem add_total (l : List Ten) (p : Int) (nm : ByteArray) : ∃ c, AddT l p nm c := by
  by_cases h1 : MayT l
  · by_cases h2 : 1 ≤ p ∧ p ≤ (l.length : Int)
    · by_cases h3 : 1 ≤ nm.size ∧ nm.size ≤ 300
      · by_cases h4 : ChildT l p nm
        · exact ⟨_, .twice h1 h2 h3 h4⟩
        · by_cases h5 : 8 ≤ l.length
          · exact ⟨_, .full h1 h2 h3 h4 h5⟩
          · exact ⟨_, .yes h1 h2 h3 h4 (by omega)⟩
      · exact ⟨_, .name h1 h2 h3⟩
    · exact ⟨_, .none h1 h2⟩
  · exact ⟨_, .arg h1⟩
theorem add_one {l : List Ten} {p : Int} {nm : ByteArray} {c d : Int} (h : AddT l p nm c) (k : AddT l p nm d) : c = d := by
  cases h <;> cases k <;> first | rfl | (exfalso; first | contradiction | omega)
/-- the list with one more -/
def moreT (l : List Ten) (p : Int) (nm : ByteArray) : List Ten := l ++ [⟨(l.length : Int) + 1, p, nm⟩]
theorem more_len (l : List Ten) (p : Int) (nm : ByteArray) : (moreT l p nm).length = l.length + 1 := by simp [moreT]
theorem add_may {l : List Ten} {p : Int} {nm : ByteArray} (h : AddT l p nm 0) : MayT (moreT l p nm) := by
  obtain ⟨m, hp, hn, hc, hf⟩ : MayT l ∧ (1 ≤ p ∧ p ≤ (l.length : Int)) ∧ (1 ≤ nm.size ∧ nm.size ≤ 300) ∧ ¬ ChildT l p nm ∧ l.length < 8 := by
    cases h with
    | yes a b c d e => exact ⟨a, b, c, d, e⟩
  refine ⟨by rw [more_len]; omega, fun i hi => ?_⟩
  rw [more_len] at hi
  by_cases e : i < l.length
  · have q := m.each i e
    unfold moreT
    rw [tg_left e]
    exact ⟨q.id, q.lo, q.hi, q.root, q.par0, q.par1, fun k hk => by rw [tg_left (by omega)]; exact q.apart k hk⟩
  · obtain rfl : i = l.length := by omega
    unfold moreT
    rw [tg_new]
    exact ⟨rfl, hn.1, hn.2, by show p = 0 ↔ l.length = 0; omega, by show 0 ≤ p; omega, hp.2, fun k hk q => by
      rw [tg_left hk] at q
      exact hc ⟨k, hk, q⟩⟩

/-- a number, its parent's, and so on -/
def pathN (l : List Ten) : Nat → Int → List Int
  | 0, _ => []
  | f + 1, a => if 1 ≤ a ∧ a ≤ (l.length : Int) then a :: pathN l f (tg l (a - 1).toNat).par else []
open Classical in
noncomputable def pathT (l : List Ten) (a : Int) : List Int := if MayT l then pathN l a.toNat a else []
theorem pathT_may {l : List Ten} (m : MayT l) (a : Int) : pathT l a = pathN l a.toNat a := if_pos m
theorem pathT_not {l : List Ten} (m : ¬ MayT l) (a : Int) : pathT l a = [] := if_neg m
theorem par_lt {l : List Ten} (m : MayT l) {a : Int} (h1 : 1 ≤ a) (h2 : a ≤ (l.length : Int)) : 0 ≤ (tg l (a - 1).toNat).par ∧ (tg l (a - 1).toNat).par < a := by
  have q := m.each (a - 1).toNat (by omega)
  have := q.par0
  have := q.par1
  omega
theorem path_fuel {l : List Ten} (m : MayT l) : ∀ (f : Nat) (a : Int), a.toNat ≤ f → pathN l f a = pathN l a.toNat a := by
  intro f
  induction f using Nat.strongRecOn with
  | _ f ih =>
    intro a ha
    cases f with
    | zero =>
      have e : a.toNat = 0 := by omega
      rw [e]
    | succ f =>
      by_cases h1 : 1 ≤ a ∧ a ≤ (l.length : Int)
      · obtain ⟨g, hg⟩ : ∃ g, a.toNat = g + 1 := ⟨a.toNat - 1, by omega⟩
        have hp := par_lt m h1.1 h1.2
        rw [hg]
        show (if _ then _ else _) = if _ then _ else _
        rw [if_pos h1, if_pos h1, ih f (by omega) _ (by omega), ih g (by omega) _ (by omega)]
      · have e : pathN l (f + 1) a = [] := if_neg h1
        rw [e]
        cases hg : a.toNat with
        | zero => rfl
        | succ g => exact (if_neg h1).symm
theorem pathT_step {l : List Ten} (m : MayT l) {a : Int} (h1 : 1 ≤ a) (h2 : a ≤ (l.length : Int)) : pathT l a = a :: pathT l (tg l (a - 1).toNat).par := by
  obtain ⟨g, hg⟩ : ∃ g, a.toNat = g + 1 := ⟨a.toNat - 1, by omega⟩
  have hp := par_lt m h1 h2
  rw [pathT_may m, pathT_may m, hg, ← path_fuel m g _ (by omega)]
  exact if_pos ⟨h1, h2⟩
theorem pathT_none {l : List Ten} {a : Int} (h : ¬ (1 ≤ a ∧ a ≤ (l.length : Int))) : pathT l a = [] := by
  by_cases m : MayT l
  · rw [pathT_may m]
    cases hg : a.toNat with
    | zero => rfl
    | succ g => exact if_neg h
  · exact pathT_not m a
/-- strong induction on a tenant's number -/
theorem tenant_rec {P : Int → Prop} {l : List Ten} (m : MayT l) (step : ∀ a, 1 ≤ a → a ≤ (l.length : Int) → (1 ≤ (tg l (a - 1).toNat).par → P (tg l (a - 1).toNat).par) → P a) : ∀ a, 1 ≤ a → a ≤ (l.length : Int) → P a := by
  suffices h : ∀ (n : Nat) (a : Int), a.toNat ≤ n → 1 ≤ a → a ≤ (l.length : Int) → P a from fun a => h a.toNat a (Nat.le_refl _)
  intro n
  induction n with
  | zero => intro a h1 h2; omega
  | succ n ih =>
    intro a h1 h2 h3
    have hp := par_lt m h2 h3
    exact step a h2 h3 fun q => ih _ (by omega) q (by omega)
theorem path_mem {l : List Ten} (m : MayT l) : ∀ b, 1 ≤ b → b ≤ (l.length : Int) → ∀ a, a ∈ pathT l b → 1 ≤ a ∧ a ≤ b :=
  tenant_rec m fun b h1 h2 ih a ha => by
    rw [pathT_step m h1 h2] at ha
    rcases List.mem_cons.1 ha with rfl | q
    · omega
    · have hp := par_lt m h1 h2
      by_cases p1 : 1 ≤ (tg l (b - 1).toNat).par
      · have := ih p1 a q; omega
      · rw [pathT_none (by omega)] at q; cases q
theorem path_self {l : List Ten} (m : MayT l) {a : Int} (h1 : 1 ≤ a) (h2 : a ≤ (l.length : Int)) : a ∈ pathT l a := by
  rw [pathT_step m h1 h2]; exact List.mem_cons_self
theorem path_root {l : List Ten} (m : MayT l) : ∀ b, 1 ≤ b → b ≤ (l.length : Int) → (1 : Int) ∈ pathT l b :=
  tenant_rec m fun b h1 h2 ih => by
    rw [pathT_step m h1 h2]
    by_cases p1 : 1 ≤ (tg l (b - 1).toNat).par
    · exact List.mem_cons_of_mem _ (ih p1)
    · have q := m.each (b - 1).toNat (by omega)
      have q1 := q.par0
      have q2 := q.root.1 (by omega)
      have e : b = 1 := by omega
      rw [e]; exact List.mem_cons_self
theorem path_trans {l : List Ten} (m : MayT l) {a b : Int} (hab : a ∈ pathT l b) : ∀ c, 1 ≤ c → c ≤ (l.length : Int) → b ∈ pathT l c → a ∈ pathT l c :=
  tenant_rec m fun c h1 h2 ih hb => by
    rw [pathT_step m h1 h2] at hb ⊢
    rcases List.mem_cons.1 hb with rfl | q
    · rw [pathT_step m h1 h2] at hab; exact hab
    · have hp := par_lt m h1 h2
      by_cases p1 : 1 ≤ (tg l (c - 1).toNat).par
      · exact List.mem_cons_of_mem _ (ih p1 q)
      · rw [pathT_none (by omega)] at q; cases q
/-- a list's paths stay behind one more -/
theorem path_stays {l : List Ten} {x : Ten} (m : MayT l) (m' : MayT (l ++ [x])) : ∀ b, 1 ≤ b → b ≤ (l.length : Int) → pathT (l ++ [x]) b = pathT l b :=
  tenant_rec m fun b h1 h2 ih => by
    have hl : (l ++ [x]).length = l.length + 1 := by simp
    rw [pathT_step m h1 h2, pathT_step m' h1 (by omega), tg_left (by omega)]
    have hp := par_lt m h1 h2
    by_cases p1 : 1 ≤ (tg l (b - 1).toNat).par
    · rw [ih p1]
    · rw [pathT_none (l := l) (by omega), pathT_none (l := l ++ [x]) (by omega)]
theorem path_more {l : List Ten} {p : Int} {nm : ByteArray} (h : AddT l p nm 0) : pathT (moreT l p nm) ((l.length : Int) + 1) = ((l.length : Int) + 1) :: pathT l p := by
  have m' := add_may h
  obtain ⟨m, hp⟩ : MayT l ∧ (1 ≤ p ∧ p ≤ (l.length : Int)) := by
    cases h with
    | yes a b c d e => exact ⟨a, b⟩
  have hl := more_len l p nm
  rw [pathT_step m' (by omega) (by omega)]
  have e : ((l.length : Int) + 1 - 1).toNat = l.length := by omega
  rw [e]
  have e2 : (tg (moreT l p nm) l.length).par = p := by unfold moreT; rw [tg_new]
  rw [e2]
  unfold moreT at m' ⊢
  rw [path_stays m m' p hp.1 hp.2]
end Go.Proofs.YtjpmglnhnfnmnaaDoor
