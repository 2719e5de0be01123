/- Words: what a copy owns. Contracts: bytes and versions are cloned, by the library's own code. -/
import Derived.Test.YtealebeacddbbaaDoorKb
import Derived.Test.YtealebeacddbbaaDoorMx
import Derived.Deep.RegionHeld3
import Derived.Laws.BytesArg
import Derived.Lib.SliceRun
namespace Go.Proofs.YtealebeacddbbaaDoor
open Go.RowKit Slices

theorem takeD {P : Program} {md : Region.Mode} {ops : Array Oper} {Q : Exit → Act → World → Prop} {S : World → Prop} {i : Nat} {oi : Oper} {d : Option Tmp} {v : Value} {fuel : Nat} {listed : Array Bool} {a : Act} {w : World} (hi : ops[i]? = some oi) (hd : oi.dst = d)
    (hs : Region.noSelect ops = true) (hf : Region.free md ops listed i = true) (hr : (Region.ready md ops listed).contains i = true)
    (hQ : ∀ c a w, Q (.panic c) (a.put d v) w → Q (.panic c) a w) (hy : YieldsIf P ops S oi v a) (hS : S w)
    (h : wpAnyH P md ops Q S fuel (listed.setIfInBounds i true) (a.put d v) w) : wpAnyH P md ops Q S (fuel + 1) listed a w := by
  subst hd
  exact wpAnyH_take hi hs hf hr hQ hy hS h
theorem Tryd.infoV : (Tryd.prog.info? 30).map (fun i => (i.zero, i.size, i.bytes)) = some (some (.agg #[.int .i64 0, .int .i64 0, .int .i64 0, .slice none 0 0]), 4, 48) := by kernel_rfl
theorem Tryd.infoK : (Tryd.prog.info? 24).map (fun i => (i.zero, i.size, i.bytes)) = some (some (.agg #[.int .i64 0, .int .i64 0, .int .i64 0, .slice none 0 0]), 4, 48) := by kernel_rfl
theorem own_ne_ty {W : World} {B m s g : Nat} {t t' : TypeId} {v : Value} {xs : List Value} {V : Array Value} (h : W.ownsRow B t s v m xs) (hr : W.heap[g]? = some (.cells V t' (0, 0))) (ht : t ≠ t') : v.ownBlock = none ∨ v.ownBlock ≠ some g := by
  rcases h.2 with ⟨rfl, _⟩ | ⟨g', c', cur, rfl, _, hg, _⟩
  · exact .inl rfl
  · refine .inr fun e => ?_
    have e' : g' = g := by injection e
    subst e'
    rw [hg] at hr
    injection hr with hr
    injection hr with _ h2
    exact ht h2
theorem own_ne_lt {W : World} {B m s g : Nat} {t : TypeId} {v : Value} {xs : List Value} (h : W.ownsRow B t s v m xs) (hg : g < B) : v.ownBlock = none ∨ v.ownBlock ≠ some g := by
  by_cases e : v.ownBlock = some g
  · have := (h.lt g e).1
    omega
  · exact .inr e
theorem grown_cell (w : World) (g i : Nat) (v : Value) : w.grownBy (w.setCell ⟨g, i, none⟩ v) (some g) :=
  ⟨rfl, rfl, rfl, by simp [World.setCell], fun j _ hne => heap_setCell_other w ⟨g, i, none⟩ j v (fun e => hne (by rw [e]))⟩
theorem size_setRow (w : World) (g : Nat) (cs : Array Value) : (w.setRow g cs).heap.size = w.heap.size := by simp [World.setRow]
theorem grown_setRow (w : World) (g : Nat) (cs : Array Value) : w.grownBy (w.setRow g cs) (some g) :=
  ⟨rfl, rfl, rfl, by rw [size_setRow]; exact Nat.le_refl _, fun i _ hne => setRow_other _ _ _ _ (fun e => hne (by rw [e]))⟩
theorem below_cell {B g : Nat} {a b : World} (h : Below B a b) (hg : B ≤ g) (i : Nat) (v : Value) : Below B a (b.setCell ⟨g, i, none⟩ v) :=
  ⟨h.os, h.tape, h.output, by have := h.size; simpa [World.setCell] using this, fun k hk => (heap_setCell_other b ⟨g, i, none⟩ k v (by show k ≠ g; omega)).trans (h.block k hk)⟩
theorem below_setRow {B g : Nat} {a b : World} (h : Below B a b) (hg : B ≤ g) (cs : Array Value) : Below B a (b.setRow g cs) :=
  ⟨h.os, h.tape, h.output, by rw [size_setRow]; exact h.size, fun k hk => (setRow_other _ _ _ _ (by omega)).trans (h.block k hk)⟩
theorem row_far {w : World} {g q i : Nat} {o : Obj} {v : Value} (h : w.heap[g]? = some o) (hq : g ≠ q) : (w.setCell ⟨q, i, none⟩ v).heap[g]? = some o := (heap_setCell_other w ⟨q, i, none⟩ g v (by exact hq)).trans h
theorem row_grown {w w' : World} {g : Nat} {o : Obj} (h : w.heap[g]? = some o) (hg : w.grownBy w' none) : w'.heap[g]? = some o := (hg.block g (Array.getElem?_eq_some_iff.1 h).1 (by simp)).trans h

theorem ownS_slice {t : TypeId} {w : World} {B k n : Nat} {v : Value} {xs : List Value} (h : w.ownsRow B t k v n xs) : ∃ S : Option Addr × Nat, v = .slice S.1 n S.2 := by
  rcases h.2 with ⟨hv, rfl⟩ | ⟨g, c, cur, hv, hb, _⟩
  · exact ⟨(none, 0), hv⟩
  · exact ⟨(_, c), hv⟩
/-- bytes that a call made itself, from block B on -/
def OwnB (w : World) (B : Nat) (S : Option Addr × Nat) (l : List Int) : Prop := w.ownsRow B 5 1 (.slice S.1 l.length S.2) l.length (ints .u8 l)
theorem OwnB.next {w w' : World} {B : Nat} {S : Option Addr × Nat} {l : List Int} (h : OwnB w B S l) (hb : Below w.heap.size w w') : OwnB w' B S l := own_next h hb
theorem OwnB.far {w : World} {B q i : Nat} {S : Option Addr × Nat} {l : List Int} {V : Array Value} {t : TypeId} {v : Value} (h : OwnB w B S l) (hr : w.heap[q]? = some (.cells V t (0, 0))) (ht : 5 ≠ t) : OwnB (w.setCell ⟨q, i, none⟩ v) B S l := World.ownsRow.kept h (grown_cell w q i v) (own_ne_ty h hr ht)
theorem OwnB.set {w : World} {B q : Nat} {S : Option Addr × Nat} {l : List Int} {V : Array Value} {t : TypeId} {cs : Array Value} (h : OwnB w B S l) (hr : w.heap[q]? = some (.cells V t (0, 0))) (ht : 5 ≠ t) : OwnB (w.setRow q cs) B S l := World.ownsRow.kept h (grown_setRow w q cs) (own_ne_ty h hr ht)
theorem OwnB.room {w : World} {B : Nat} {S : Option Addr × Nat} {l : List Int} (h : OwnB w B S l) : (S.1 = none → l.length = 0 ∧ S.2 = 0) ∧ l.length ≤ S.2 := ⟨fun e => own_none h e, by
  rcases h.2 with ⟨hv, h0⟩ | ⟨g, c', cur, hv, _, _, hc, _⟩
  · omega
  · injection hv with h1 h2 h3
    omega⟩
theorem OwnM.far {t t' : TypeId} {w : World} {B k n c q i : Nat} {A : Option Addr} {f : Nat → Nat → Value} {V : Array Value} {v : Value} (h : OwnM w B t k A n c f) (hr : w.heap[q]? = some (.cells V t' (0, 0))) (ht : t ≠ t') : OwnM (w.setCell ⟨q, i, Option.none⟩ v) B t k A n c f := World.ownsRow.kept h (grown_cell w q i v) (own_ne_ty h hr ht)
theorem OwnM.set {t t' : TypeId} {w : World} {B k n c q : Nat} {A : Option Addr} {f : Nat → Nat → Value} {V cs : Array Value} (h : OwnM w B t k A n c f) (hr : w.heap[q]? = some (.cells V t' (0, 0))) (ht : t ≠ t') : OwnM (w.setRow q cs) B t k A n c f := World.ownsRow.kept h (grown_setRow w q cs) (own_ne_ty h hr ht)
theorem OwnM.lt {t : TypeId} {w : World} {B k n c q i : Nat} {A : Option Addr} {f : Nat → Nat → Value} {v : Value} (h : OwnM w B t k A n c f) (hr : q < B) : OwnM (w.setCell ⟨q, i, Option.none⟩ v) B t k A n c f := World.ownsRow.kept h (grown_cell w q i v) (own_ne_lt h hr)
theorem OwnM.grown {t : TypeId} {w w' : World} {B k n c : Nat} {A : Option Addr} {f : Nat → Nat → Value} (h : OwnM w B t k A n c f) (hg : w.grownBy w' Option.none) : OwnM w' B t k A n c f := World.ownsRow.kept h hg (by
  rcases A with _ | a
  · exact .inl rfl
  · exact .inr (by simp [Value.ownBlock]))
/-- a version's cells; where its seed lies -/
def verF (l : List Ver) (VS : Nat → Option Addr × Nat) (j r : Nat) : Value := match r with
  | 0 => .int .i64 (vg l j).n
  | 1 => .int .i64 (vg l j).st
  | 2 => .int .i64 (vg l j).due
  | _ => .slice (VS j).1 (vg l j).seed.length (VS j).2
theorem verF_plain (l : List Ver) (VS : Nat → Option Addr × Nat) (n : Nat) : ∀ u ∈ mat 4 n (verF l VS), u.oneCell' = true := mat_plain fun j r _ hr => by
  rcases (by omega : r = 0 ∨ r = 1 ∨ r = 2 ∨ r = 3) with rfl | rfl | rfl | rfl <;> rfl
def SeedIn (w : World) (B : Nat) (S : Option Addr × Nat) (l : List Int) : Prop := Has .u8 w B S.1 l ∧ (S.1 = none → l.length = 0 ∧ S.2 = 0) ∧ l.length ≤ S.2
theorem OwnB.seed {w : World} {B : Nat} {S : Option Addr × Nat} {l : List Int} (h : OwnB w B S l) : SeedIn w w.heap.size S l := ⟨own_read h, h.room.1, h.room.2⟩
theorem hasV_places {w : World} {B : Nat} {A : Option Addr} {l : List Ver} (h : HasV w B A l) : ∃ VS, HasM w B A 4 l.length (verF l VS) ∧ ∀ k, k < l.length → SeedIn w B (VS k) (vg l k).seed := by
  have h' : ∀ k, ∃ S : Option Addr × Nat, k < l.length → (∃ a : Addr, A = some a ∧ a.block < B ∧ ∀ r, r < 4 → w.cell? (a.add (k * 4 + r)) = some (verF l (fun _ => S) k r)) ∧ SeedIn w B S (vg l k).seed := fun k => by
    by_cases hk : k < l.length
    · obtain ⟨a, S, c, e, hab, c0, c1, c2, c3, hs, h1, h2⟩ := h k hk
      refine ⟨(S, c), fun _ => ⟨⟨a, e, hab, fun r hr => ?_⟩, hs, h1, h2⟩⟩
      rcases (by omega : r = 0 ∨ r = 1 ∨ r = 2 ∨ r = 3) with rfl | rfl | rfl | rfl
      · exact c0
      · rw [← add_addN]; exact c1
      · rw [← add_addN]; exact c2
      · rw [← add_addN]; exact c3
    · exact ⟨(none, 0), fun q => absurd q hk⟩
  obtain ⟨VS, hVS⟩ := Classical.skolem.1 h'
  refine ⟨VS, fun j r hj hr => ?_, fun k hk => (hVS k hk).2⟩
  obtain ⟨⟨a, e, hab, hc⟩, _⟩ := hVS j hj
  refine ⟨a, e, hab, (hc r hr).trans ?_⟩
  rcases (by omega : r = 0 ∨ r = 1 ∨ r = 2 ∨ r = 3) with rfl | rfl | rfl | rfl <;> rfl
theorem places_hasV {w : World} {B : Nat} {A : Option Addr} {l : List Ver} {VS : Nat → Option Addr × Nat} (h : HasM w B A 4 l.length (verF l VS)) (hs : ∀ k, k < l.length → SeedIn w B (VS k) (vg l k).seed) : HasV w B A l := fun k hk => by
  obtain ⟨a, e, hab, c0⟩ := h k 0 hk (by omega)
  obtain ⟨a1, e1, _, c1⟩ := h k 1 hk (by omega)
  obtain ⟨a2, e2, _, c2⟩ := h k 2 hk (by omega)
  obtain ⟨a3, e3, _, c3⟩ := h k 3 hk (by omega)
  rw [e] at e1 e2 e3
  injection e1 with e1
  injection e2 with e2
  injection e3 with e3
  subst e1
  subst e2
  subst e3
  exact ⟨a, (VS k).1, (VS k).2, e, hab, c0, by rw [add_addN]; exact c1, by rw [add_addN]; exact c2, by rw [add_addN]; exact c3, (hs k hk).1, (hs k hk).2.1, (hs k hk).2.2⟩
/-- a key that a call made itself -/
def OwnK (w : World) (B : Nat) (S : Option Addr × Nat) (K : KeyV) : Prop := ∃ VS, OwnM w B 30 4 S.1 K.vs.length S.2 (verF K.vs VS) ∧ ∀ j, j < K.vs.length → OwnB w B (VS j) (vg K.vs j).seed
theorem OwnK.next {w w' : World} {B : Nat} {S : Option Addr × Nat} {K : KeyV} (h : OwnK w B S K) (hb : Below w.heap.size w w') : OwnK w' B S K := by
  obtain ⟨VS, h1, h2⟩ := h
  exact ⟨VS, h1.next hb, fun j hj => (h2 j hj).next hb⟩
theorem OwnK.rd {w : World} {B : Nat} {S : Option Addr × Nat} {K : KeyV} (h : OwnK w B S K) : RdK w S.1 S.2 K := by
  obtain ⟨VS, h1, h2⟩ := h
  exact ⟨places_hasV h1.has fun k hk => (h2 k hk).seed, h1.none, h1.cap⟩
/-- what a key's copy is -/
def CopyK (K : KeyV) (w : World) (e : Ending) (w' : World) : Prop := ∃ S : Option Addr × Nat, e = .returned (keyVal K S.1 S.2) ∧ OwnK w' w.heap.size S K ∧ Below w.heap.size w w'
def mixS (k : Nat) (NS VS : Nat → Option Addr × Nat) (j : Nat) : Option Addr × Nat := if j < k then NS j else VS j
theorem mix_end {l : List Ver} {n : Nat} {NS VS : Nat → Option Addr × Nat} : mat 4 n (verF l (mixS n NS VS)) = mat 4 n (verF l NS) := mat_congr fun j r hj _ => by
  unfold verF mixS
  rw [if_pos hj]
theorem mix_up {l : List Ver} {k n : Nat} {NS VS : Nat → Option Addr × Nat} (S : Option Addr × Nat) (hk : k < n) : mat 4 n (updM (verF l (mixS k NS VS)) k 3 (.slice S.1 (vg l k).seed.length S.2)) = mat 4 n (verF l (mixS (k + 1) (fun j => if j = k then S else NS j) VS)) := mat_congr fun j r hj hr => by
  unfold updM
  rcases (by omega : r = 0 ∨ r = 1 ∨ r = 2 ∨ r = 3) with rfl | rfl | rfl | rfl
  · simp [verF]
  · simp [verF]
  · simp [verF]
  · by_cases e : j = k
    · subst e; simp [verF, mixS]
    · have e2 : (j < k + 1) = (j < k) := by rw [eq_iff_iff]; omega
      simp [verF, mixS, e, e2]


theorem own_far {t t' : TypeId} {w : World} {B s n q i : Nat} {v u : Value} {xs : List Value} {V : Array Value} (h : w.ownsRow B t s v n xs) (hr : w.heap[q]? = some (.cells V t' (0, 0))) (ht : t ≠ t') : (w.setCell ⟨q, i, none⟩ u).ownsRow B t s v n xs := World.ownsRow.kept h (grown_cell w q i u) (own_ne_ty h hr ht)
theorem own_setr {t t' : TypeId} {w : World} {B s n q : Nat} {v : Value} {xs : List Value} {V cs : Array Value} (h : w.ownsRow B t s v n xs) (hr : w.heap[q]? = some (.cells V t' (0, 0))) (ht : t ≠ t') : (w.setRow q cs).ownsRow B t s v n xs := World.ownsRow.kept h (grown_setRow w q cs) (own_ne_ty h hr ht)
theorem own_nextS {t : TypeId} {w w' : World} {B s n : Nat} {v : Value} {xs : List Value} (h : w.ownsRow B t s v n xs) (hb : Below w.heap.size w w') : w'.ownsRow B t s v n xs := by
  refine ⟨h.1, ?_⟩
  rcases h.2 with h' | ⟨g, c, cur, hv, hB, hg, hr⟩
  · exact .inl h'
  · exact .inr ⟨g, c, cur, hv, hB, (hb.block g (Array.getElem?_eq_some_iff.1 hg).1).trans hg, hr⟩
theorem own_downS {t : TypeId} {w : World} {B B' s n : Nat} {v : Value} {xs : List Value} (h : w.ownsRow B t s v n xs) (hb : B' ≤ B) : w.ownsRow B' t s v n xs := by
  refine ⟨h.1, ?_⟩
  rcases h.2 with h' | ⟨g, c, cur, hv, hB, hg, hr⟩
  · exact .inl h'
  · exact .inr ⟨g, c, cur, hv, Nat.le_trans hb hB, hg, hr⟩
theorem OwnK.down {w : World} {B B' : Nat} {S : Option Addr × Nat} {K : KeyV} (h : OwnK w B S K) (hb : B' ≤ B) : OwnK w B' S K := by
  obtain ⟨VS, h1, h2⟩ := h
  exact ⟨VS, own_downS h1 hb, fun j hj => own_downS (h2 j hj) hb⟩
theorem OwnK.far {w : World} {B q i : Nat} {S : Option Addr × Nat} {K : KeyV} {V : Array Value} {t : TypeId} {v : Value} (h : OwnK w B S K) (hr : w.heap[q]? = some (.cells V t (0, 0))) (h5 : 5 ≠ t) (hV : 30 ≠ t) : OwnK (w.setCell ⟨q, i, none⟩ v) B S K := by
  obtain ⟨VS, h1, h2⟩ := h
  exact ⟨VS, own_far h1 hr hV, fun j hj => own_far (h2 j hj) hr h5⟩
theorem OwnK.set {w : World} {B q : Nat} {S : Option Addr × Nat} {K : KeyV} {V cs : Array Value} {t : TypeId} (h : OwnK w B S K) (hr : w.heap[q]? = some (.cells V t (0, 0))) (h5 : 5 ≠ t) (hV : 30 ≠ t) : OwnK (w.setRow q cs) B S K := by
  obtain ⟨VS, h1, h2⟩ := h
  exact ⟨VS, own_setr h1 hr hV, fun j hj => own_setr (h2 j hj) hr h5⟩

theorem Tryd.infoB : (Tryd.prog.info? 5).map (fun i => (i.zero, i.size, i.bytes)) = some (some (.int .u8 0), 1, 1) := by kernel_rfl
/-- bytes are told that the call made itself -/
def BytesTold (l : List Int) (w : World) (e : Ending) (w' : World) : Prop := ∃ S' : Option Addr × Nat, e = .returned (.slice S'.1 l.length S'.2) ∧ OwnB w' w.heap.size S' l ∧ Below w.heap.size w w'
theorem clone_nil (w : World) : Calls Tryd.prog 27 #[.slice none 0 0] w fun e w' => e = .returned (.slice none 0 0) ∧ w = w' := by
  have q := Lib.run_eql_slice_nil (P := Tryd.prog) w 28 5 none 0 0 0 0 Tryd.underlying28
  go_enter Tryd.func27, Tryd.ntmps27
  go_wp2
  go_ret
  exact ⟨rfl, rfl⟩
set_option maxRecDepth 100000 in
set_option maxHeartbeats 1000000 in
theorem clone_any (S : Option Addr × Nat) (l : List Int) (w : World) (h : SeedIn w w.heap.size S l) (hl : l.length ≤ 3000) :
    Calls Tryd.prog 27 #[.slice S.1 l.length S.2] w (BytesTold l w) := by
  obtain ⟨A, c⟩ := S
  obtain ⟨h1, h2, h3⟩ := h
  simp only at h1 h2 h3 ⊢
  rcases A with _ | a
  · obtain ⟨h0, rfl⟩ := h2 rfl
    obtain rfl := List.eq_nil_of_length_eq_zero h0
    refine (clone_nil w).mono ?_
    rintro e w' ⟨he, rfl⟩
    exact ⟨(none, 0), he, World.ownsRow_nil _ _ _ _, Below.refl _ _⟩
  · obtain ⟨i0, hi0, hz0, hz1, hz2⟩ := info_parts Tryd.infoB
    have H := Lib.hid h1.cells
    obtain ⟨n, hn⟩ : ∃ n, n = l.length := ⟨_, rfl⟩
    rw [← hn] at hl ⊢
    have HN := Lib.hid hn
    have q := Lib.run_eql_slice_nil (P := Tryd.prog) w 28 5 (some a) n c 0 0 Tryd.underlying28
    clear h1 h2 h3 hn
    go_enter Tryd.func27, Tryd.ntmps27
    go_wp2_with (at_builtin; refine append_any _ rfl _ _ 28 rfl w.heap.size 5 i0 (.int .u8 0) 1 1 Tryd.underlying28 hi0 hz0 hz1 hz2 rfl (by decide) _ _ _ rfl (World.ownsRow_made w #[] 0 (Nat.le_refl _) (Nat.zero_le _) rfl) (some a) n c (ints .u8 l) rfl (by rw [ints_length, HN.out, Nat.mul_one]) (fun h => by cases h) (fun ad e j u hu => Lib.cell?_alloc_some _ (H.out ad e j u hu)) (ints_one _ _) (by unfold maxLen; omega) (by omega) (by simp) ?_; intro v2 w2 hown hgrow; rw [Nat.zero_add, List.nil_append] at hown; have HO := Lib.hid hown; have HB : Hid (Below w.heap.size w w2) := ((Below.refl _ _).alloc (Nat.le_refl _) _).grown hgrow (by simp) (fun k hk => by injection hk with hk; subst hk; exact Nat.le_refl _); clear hown hgrow)
    obtain ⟨S2, rfl⟩ := ownS_slice HO.out
    go_ret
    have q2 := HO.out
    rw [HN.out] at q2
    have e1 : Ending.returned (.slice S2.1 n S2.2) = .returned (.slice S2.1 l.length S2.2) := by rw [HN.out]
    exact ⟨S2, e1, q2, HB.out⟩
theorem cloneV_nil (w : World) : Calls Tryd.prog 44 #[.slice none 0 0] w fun e w' => e = .returned (.slice none 0 0) ∧ w = w' := by
  have q := Lib.run_eql_slice_nil (P := Tryd.prog) w 22 30 none 0 0 0 0 Tryd.underlying22
  go_enter Tryd.func44, Tryd.ntmps44
  go_wp2
  go_ret
  exact ⟨rfl, rfl⟩
set_option maxRecDepth 100000 in
set_option maxHeartbeats 1000000 in
theorem cloneV_any (S : Option Addr × Nat) (l : List Ver) (VS : Nat → Option Addr × Nat) (w : World) (h : HasM w w.heap.size S.1 4 l.length (verF l VS)) (hA : S.1 = none → l.length = 0 ∧ S.2 = 0) (few : l.length ≤ 12) :
    Calls Tryd.prog 44 #[.slice S.1 l.length S.2] w fun e w' => ∃ S' : Option Addr × Nat, e = .returned (.slice S'.1 l.length S'.2) ∧ OwnM w' w.heap.size 30 4 S'.1 l.length S'.2 (verF l VS) ∧ Below w.heap.size w w' := by
  obtain ⟨A, c⟩ := S
  simp only at h hA ⊢
  rcases A with _ | a
  · obtain ⟨h0, rfl⟩ := hA rfl
    obtain rfl := List.eq_nil_of_length_eq_zero h0
    refine (cloneV_nil w).mono ?_
    rintro e w' ⟨he, rfl⟩
    exact ⟨(none, 0), he, World.ownsRow_nil _ _ _ _, Below.refl _ _⟩
  · obtain ⟨i1, hi1, hy0, hy1, hy2⟩ := info_parts Tryd.infoV
    have H := Lib.hid h.cells
    obtain ⟨n, hn⟩ : ∃ n, n = l.length := ⟨_, rfl⟩
    rw [← hn] at H few ⊢
    have HN := Lib.hid hn
    have q := Lib.run_eql_slice_nil (P := Tryd.prog) w 22 30 (some a) n c 0 0 Tryd.underlying22
    clear h hA hn
    go_enter Tryd.func44, Tryd.ntmps44
    go_wp2_with (at_builtin; refine append_any _ rfl _ _ 22 rfl w.heap.size 30 i1 _ 4 48 Tryd.underlying22 hi1 hy0 hy1 hy2 rfl (by decide) _ _ _ rfl (World.ownsRow_made w #[] 0 (Nat.le_refl _) (Nat.zero_le _) rfl) (some a) n c (mat 4 n (verF l VS)) rfl (mat_len _ _ _) (fun h => by cases h) (fun ad e j u hu => Lib.cell?_alloc_some _ (H.out ad e j u hu)) (verF_plain _ _ _) (by unfold maxLen; omega) (by omega) (by simp) ?_; intro v2 w2 hown hgrow; rw [Nat.zero_add, List.nil_append] at hown; have HO := Lib.hid hown; have HB : Hid (Below w.heap.size w w2) := ((Below.refl _ _).alloc (Nat.le_refl _) _).grown hgrow (by simp) (fun k hk => by injection hk with hk; subst hk; exact Nat.le_refl _); clear hown hgrow)
    obtain ⟨S2, rfl⟩ := ownS_slice HO.out
    go_ret
    exact ⟨S2, rfl, HO.out, HB.out⟩
end Go.Proofs.YtealebeacddbbaaDoor
