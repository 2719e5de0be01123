/- Words: what a key reads as. Contracts: is a key great; two versions, two keys that are alike. -/
import Derived.Test.YtealebeacddbbaaDoorKa
import Derived.Test.YtealebeacddbbaaDoorWords
import Derived.Test.YtealebeacddbbaaDoorProg
namespace Go.Proofs.YtealebeacddbbaaDoor
open Go.RowKit Slices

/-- versions that a slice tells -/
def HasV (w : World) (B : Nat) (A : Option Addr) (l : List Ver) : Prop :=
  ∀ k, k < l.length → ∃ (a : Addr) (S : Option Addr) (c : Nat), A = some a ∧ a.block < B ∧ w.cell? (a.add (k * 4)) = some (.int .i64 (vg l k).n) ∧ w.cell? ((a.add (k * 4)).add 1) = some (.int .i64 (vg l k).st) ∧ w.cell? ((a.add (k * 4)).add 2) = some (.int .i64 (vg l k).due) ∧ w.cell? ((a.add (k * 4)).add 3) = some (.slice S (vg l k).seed.length c) ∧ Has .u8 w B S (vg l k).seed ∧ (S = none → (vg l k).seed.length = 0 ∧ c = 0) ∧ (vg l k).seed.length ≤ c
theorem HasV.next {w w' : World} {A : Option Addr} {l : List Ver} (h : HasV w w.heap.size A l) (hb : Below w.heap.size w w') : HasV w' w'.heap.size A l := fun k hk => by
  obtain ⟨a, S, c, e, hab, c0, c1, c2, c3, hs, h1, h2⟩ := h k hk
  have lt : ∀ j, ((a.add (k * 4)).add j).block < w.heap.size := fun j => by rw [add_block, add_block]; exact hab
  exact ⟨a, S, c, e, Nat.lt_of_lt_of_le hab hb.size, (hb.cell (by rw [add_block]; exact hab)).trans c0, (hb.cell (lt 1)).trans c1, (hb.cell (lt 2)).trans c2, (hb.cell (lt 3)).trans c3, has_next hs hb, h1, h2⟩
/-- a key's value -/
def keyVal (K : KeyV) (A : Option Addr) (c : Nat) : Value := .agg #[.int .i64 K.id, .int .i64 K.ten, .int .i64 K.set, .slice A K.vs.length c]
/-- the value with its memory reads as that key -/
structure RdK (w : World) (A : Option Addr) (c : Nat) (K : KeyV) : Prop where
  has : HasV w w.heap.size A K.vs
  none : A = Option.none → K.vs.length = 0 ∧ c = 0
  cap : K.vs.length ≤ c
theorem RdK.next {w w' : World} {A : Option Addr} {c : Nat} {K : KeyV} (h : RdK w A c K) (hb : Below w.heap.size w w') : RdK w' A c K := ⟨h.has.next hb, h.none, h.cap⟩
theorem rdK_zero (w : World) : RdK w none 0 key0 := ⟨fun k hk => (by cases hk), fun _ => ⟨rfl, rfl⟩, Nat.le_refl _⟩
/-- few enough to be gone through -/
def FewK (K : KeyV) : Prop := K.vs.length ≤ 8 ∧ ∀ k, k < K.vs.length → (vg K.vs k).seed.length ≤ 100
theorem may_few {K : KeyV} (m : MayK K) : FewK K := ⟨by have := m.few; omega, fun k hk => by
  have q := m.each k hk
  by_cases e : (vg K.vs k).st = 4
  · rw [q.gone e]; omega
  · rw [q.live e]; omega⟩

theorem list_eq {l l' : List Int} (hn : l.length = l'.length) (h : ∀ j, j < l.length → l.getD j 0 = l'.getD j 0) : l = l' := by
  apply List.ext_getElem hn
  intro i h1 h2
  have e := h i h1
  rw [List.getD_eq_getElem?_getD, List.getElem?_eq_getElem h1, List.getD_eq_getElem?_getD, List.getElem?_eq_getElem h2] at e
  exact e
set_option maxRecDepth 100000 in
set_option maxHeartbeats 2000000 in
theorem sameB_any (A A' : Option Addr) (c c' n n' B : Nat) (l l' : List Int) (w : World) (hn : n = l.length) (hn' : n' = l'.length) (hl : n ≤ 4611686018427387904) (hl' : n' ≤ 4611686018427387904) (h : Has .u8 w B A l) (h' : Has .u8 w B A' l') :
    Calls Tryd.prog 37 #[.slice A n c, .slice A' n' c'] w fun e w' => e = .returned (.bool (decide (l = l'))) ∧ ∃ k, w' = w.drewN k := by
  by_cases hne : n = n'
  · subst hne
    obtain ⟨R, hR⟩ : ∃ R, R = decide (l = l') := ⟨_, rfl⟩
    rw [← hR]
    have HR := Lib.hid hR
    have HN := Lib.hid hn
    have HN' := Lib.hid hn'
    have H := Lib.hid h
    have H' := Lib.hid h'
    clear hR hn hn' h h'
    go_enter Tryd.func37, Tryd.ntmps37
    go_wp2
    go_loopw [5] (fun i wr => ∃ k d : Nat, k ≤ n ∧ i = .int .i64 k ∧ (∀ j, j < k → l.getD j 0 = l'.getD j 0) ∧ wr = w.drewN d) (fun i _ => n - (intOf i).toNat)
    case atStart => exact ⟨0, 0, Nat.zero_le _, rfl, fun j hj => by omega, rfl⟩
    case round =>
      obtain ⟨k, d, hk, rfl, hq, rfl⟩ := hrel
      have HQ := Lib.hid hq
      clear hq
      by_cases hlt : k < n
      · obtain ⟨a, rfl, _, ha⟩ := H.out k (by rw [← HN.out]; exact hlt)
        obtain ⟨a', rfl, _, ha'⟩ := H'.out k (by rw [← HN'.out]; exact hlt)
        by_cases hx : l.getD k 0 = l'.getD k 0
        · have HX := Lib.hid hx
          rw [← hx] at ha'
          clear hx
          go_wp2
          go_quiet (fail)
          go_wp2
          go_roundw
          case rel => exact ⟨k + 1, d + nq, by omega, by go_num, fun j hj => by
            by_cases e : j = k
            · subst e; exact HX.out
            · exact HQ.out j (by omega), rfl⟩
          case measure => simp [intOf]; omega
        · have HX : Hid (R = false) := by
            show R = false
            rw [HR.out, decide_eq_false_iff_not]
            intro e
            exact hx (by rw [e])
          have t1 : (l.getD k 0 == l'.getD k 0) = false := beq_eq_false_iff_ne.2 hx
          generalize l.getD k 0 = x at ha t1
          generalize l'.getD k 0 = y at ha' t1
          clear hx
          go_wp2
          go_quiet (fail)
          go_wp2
          go_ret
          exact ⟨by rw [HX.out]; rfl, d + nq, by rw [World.drewN_drewN]⟩
      · have HX : Hid (R = true) := by
          show R = true
          rw [HR.out, decide_eq_true_iff]
          have e1 := HN.out
          have e2 := HN'.out
          exact list_eq (by omega) fun j hj => HQ.out j (by omega)
        go_wp2
        go_ret
        exact ⟨by rw [HX.out]; rfl, d, rfl⟩
  · have e : decide (l = l') = false := by
      rw [decide_eq_false_iff_not]
      intro e
      exact hne (by rw [hn, hn', e])
    rw [e]
    have t1 : ((n : Int) == (n' : Int)) = false := by rw [beq_eq_false_iff_ne]; omega
    clear hne hn hn' e h h'
    go_enter Tryd.func37, Tryd.ntmps37
    go_wp2
    go_ret
    exact ⟨rfl, 0, rfl⟩
theorem sameB_dec (A A' : Option Addr) (c c' n n' : Nat) (l l' : List Int) (w : World) (hn : n = l.length) (hn' : n' = l'.length) (hl : n ≤ 4611686018427387904) (hl' : n' ≤ 4611686018427387904) (h : Has .u8 w w.heap.size A l) (h' : Has .u8 w w.heap.size A' l') :
    Calls Tryd.prog 37 #[.slice A n c, .slice A' n' c'] w fun e w' => e = .returned (.bool (decide (l = l'))) ∧ Below w.heap.size w w' :=
  (sameB_any A A' c c' n n' w.heap.size l l' w hn hn' hl hl' h h').mono fun e w' ⟨h1, n, h2⟩ => ⟨h1, by rw [h2]; exact below_drewN (Below.refl _ _) n⟩


/-- a key that lies in a variable of its own -/
structure KeyAt (w : World) (g : Nat) (A : Option Addr) (c : Nat) (K : KeyV) : Prop where
  row : w.heap[g]? = some (.cells #[.int .i64 K.id, .int .i64 K.ten, .int .i64 K.set, .slice A K.vs.length c] 24 (0, 0))
  rd : RdK w A c K
theorem KeyAt.lt {w : World} {g : Nat} {A : Option Addr} {c : Nat} {K : KeyV} (h : KeyAt w g A c K) : g < w.heap.size := (Array.getElem?_eq_some_iff.1 h.row).1
theorem KeyAt.next {w w' : World} {g : Nat} {A : Option Addr} {c : Nat} {K : KeyV} (h : KeyAt w g A c K) (hb : Below w.heap.size w w') : KeyAt w' g A c K := ⟨(hb.block g h.lt).trans h.row, h.rd.next hb⟩
theorem KeyAt.c0 {w : World} {g : Nat} {A : Option Addr} {c : Nat} {K : KeyV} (h : KeyAt w g A c K) : w.cell? ⟨g, 0, none⟩ = some (.int .i64 K.id) := by rw [cell_of_row _ _ 0 _ _ _ h.row]; rfl
theorem KeyAt.c1 {w : World} {g : Nat} {A : Option Addr} {c : Nat} {K : KeyV} (h : KeyAt w g A c K) : w.cell? ⟨g, 1, none⟩ = some (.int .i64 K.ten) := by rw [cell_of_row _ _ 1 _ _ _ h.row]; rfl
theorem KeyAt.c2 {w : World} {g : Nat} {A : Option Addr} {c : Nat} {K : KeyV} (h : KeyAt w g A c K) : w.cell? ⟨g, 2, none⟩ = some (.int .i64 K.set) := by rw [cell_of_row _ _ 2 _ _ _ h.row]; rfl
theorem KeyAt.c3 {w : World} {g : Nat} {A : Option Addr} {c : Nat} {K : KeyV} (h : KeyAt w g A c K) : w.cell? ⟨g, 3, none⟩ = some (.slice A K.vs.length c) := by rw [cell_of_row _ _ 3 _ _ _ h.row]; rfl
theorem keyAt_new {w : World} {A : Option Addr} {c : Nat} {K : KeyV} (h : RdK w A c K) : KeyAt (w.alloc (.cells #[.int .i64 K.id, .int .i64 K.ten, .int .i64 K.set, .slice A K.vs.length c] 24)) w.heap.size A c K :=
  ⟨heap_alloc_new w _, h.next ((Below.refl _ _).alloc (Nat.le_refl _) _)⟩

set_option maxRecDepth 100000 in
set_option maxHeartbeats 1000000 in
theorem greatK_any (K : KeyV) (A : Option Addr) (c : Nat) (w : World) (h : RdK w A c K) :
    Calls Tryd.prog 4 #[keyVal K A c] w fun e w' => ∃ b, e = .returned (.bool b) ∧ (b = false → FewK K) ∧ Below w.heap.size w w' := by
  have hk := keyAt_new h
  have HB : Hid (Below w.heap.size w (w.alloc (.cells #[.int .i64 K.id, .int .i64 K.ten, .int .i64 K.set, .slice A K.vs.length c] 24))) := (Below.refl _ _).alloc (Nat.le_refl _) _
  have K3 := hk.c3
  have HR := Lib.hid hk.rd.has
  clear h hk
  unfold keyVal
  obtain ⟨n, hn⟩ : ∃ n, n = K.vs.length := ⟨_, rfl⟩
  have HN := Lib.hid hn
  rw [← hn] at K3 HB HR ⊢
  clear hn
  by_cases h8 : n ≤ 8
  · go_enter Tryd.func4, Tryd.ntmps4
    go_wp2
    generalize (w.alloc (.cells #[.int .i64 K.id, .int .i64 K.ten, .int .i64 K.set, .slice A n c] 24)) = W at HB K3 HR ⊢
    generalize w.heap.size = g at K3 ⊢
    go_loopw [3] (fun i wr => ∃ k : Nat, k ≤ n ∧ i = .int .i64 k ∧ wr = W ∧ ∀ j, j < k → (vg K.vs j).seed.length ≤ 100) (fun i _ => n - (intOf i).toNat)
    case atStart => exact ⟨0, by omega, rfl, rfl, fun j hj => by cases hj⟩
    case round =>
      obtain ⟨k, hk, rfl, hw, hr⟩ := hrel
      obtain rfl := hw
      have HS := Lib.hid hr
      clear hr
      by_cases hlt : k < n
      · obtain ⟨a, S, cs, rfl, _, _, _, _, c3, _⟩ := HR.out k (by rw [← HN.out]; exact hlt)
        obtain ⟨m, hm⟩ : ∃ m, m = (vg K.vs k).seed.length := ⟨_, rfl⟩
        rw [← hm] at c3
        have HM := Lib.hid hm
        have c3' : wr.cell? ⟨(a.add (k * 4)).block, (a.add (k * 4)).off + 3, none⟩ = some (.slice S m cs) := c3
        clear hm c3
        by_cases hq : 100 < m
        · go_wp2
          go_ret
          exact ⟨true, rfl, (fun e => by cases e), HB.out⟩
        · go_wp2
          go_roundw
          case rel => exact ⟨k + 1, by omega, by go_num, trivial, fun j hj => by
            by_cases e : j = k
            · rw [e, ← HM.out]; omega
            · exact HS.out j (by omega)⟩
          case measure => simp [intOf]; omega
      · obtain rfl : k = n := by omega
        go_wp2
        go_ret
        exact ⟨_, rfl, fun _ => ⟨by rw [← HN.out]; exact h8, by rw [← HN.out]; exact HS.out⟩, HB.out⟩
  · go_enter Tryd.func4, Tryd.ntmps4
    go_wp2
    refine wp_loop_rounds 1 ?_
    rw [rounds_succ]
    go_wp2
    go_ret
    exact ⟨_, rfl, fun e => by first | (cases e) | (simp at e; omega), HB.out⟩

set_option maxRecDepth 100000 in
set_option maxHeartbeats 1000000 in
theorem sameVer_true (v : Ver) (S S' : Option Addr) (c c' : Nat) (w : World) (h : Has .u8 w w.heap.size S v.seed) (h' : Has .u8 w w.heap.size S' v.seed) (hl : v.seed.length ≤ 40000) :
    Calls Tryd.prog 24 #[.agg #[.int .i64 v.n, .int .i64 v.st, .int .i64 v.due, .slice S v.seed.length c], .agg #[.int .i64 v.n, .int .i64 v.st, .int .i64 v.due, .slice S' v.seed.length c']] w fun e w' => e = .returned (.bool true) ∧ Below w.heap.size w w' := by
  obtain ⟨x0, x1, x2, l⟩ := v
  simp only at h h' hl ⊢
  have b1 : Below w.heap.size w (w.alloc (.cells #[.int .i64 x0, .int .i64 x1, .int .i64 x2, .slice S l.length c] 30)) := (Below.refl _ _).alloc (Nat.le_refl _) _
  have b2 : Below w.heap.size w ((w.alloc (.cells #[.int .i64 x0, .int .i64 x1, .int .i64 x2, .slice S l.length c] 30)).alloc (.cells #[.int .i64 x0, .int .i64 x1, .int .i64 x2, .slice S' l.length c'] 30)) := b1.alloc (by simp) _
  have H := Lib.hid (has_next h b2)
  have H' := Lib.hid (has_next h' b2)
  have HB := Lib.hid b2
  clear h h' b1 b2
  go_enter Tryd.func24, Tryd.ntmps24
  go_wp2_with (go_at_call 37; refine (sameB_dec S S' c c' l.length l.length l l _ rfl rfl (by omega) (by omega) H.out H'.out).mono ?_; rw [decide_eq_true rfl]; rintro e w' ⟨rfl, hb⟩; have HB2 := Lib.hid hb; clear hb)
  go_ret
  exact ⟨rfl, below_next HB.out HB2.out⟩

/-- a region that writes nothing, operation by operation (a structure, so that nothing unfolds it) -/
structure Stp (P : Program) (ops : Array Oper) (w : World) (Q : Act → Prop) (rest : List Oper) (a : Act) : Prop where
  out : wpStill P ops w Q rest a
theorem Stp.run {P : Program} {ops : Array Oper} {w : World} {Q : Act → Prop} {a : Act} {o : Oper} {rest : List Oper} (hw : Region.wanted o (yielded ops a.tmps) = true)
    (h : ∀ K : Act → Prop, (∀ a, Stp P ops w Q rest a → K a) → o.still P a w K) : Stp P ops w Q (o :: rest) a := by
  refine ⟨?_⟩
  unfold wpStill
  rw [if_pos hw]
  exact h _ fun _ h => h.out
theorem Stp.skip {P : Program} {ops : Array Oper} {w : World} {Q : Act → Prop} {a : Act} {o : Oper} {rest : List Oper} (hw : Region.wanted o (yielded ops a.tmps) = false)
    (h : Stp P ops w Q rest (a.put o.dst undef)) : Stp P ops w Q (o :: rest) a := by
  refine ⟨?_⟩
  unfold wpStill
  rw [if_neg (by rw [hw]; decide)]
  exact h.out
theorem Stp.nil {P : Program} {ops : Array Oper} {w : World} {Q : Act → Prop} {a : Act} (h : Q a) : Stp P ops w Q [] a := ⟨wpStill_nil h⟩

theorem cells4 {w : World} {A : Option Addr} {l : List Ver} {k : Nat} (h : HasV w w.heap.size A l) (hk : k < l.length) : ∃ (a : Addr) (S : Option Addr) (c : Nat), A = some a ∧ a.block < w.heap.size ∧ w.cell? (a.add (k * 4)) = some (.int .i64 (vg l k).n) ∧ w.cell? ⟨(a.add (k * 4)).block, (a.add (k * 4)).off + 1, none⟩ = some (.int .i64 (vg l k).st) ∧ w.cell? ⟨(a.add (k * 4)).block, (a.add (k * 4)).off + 2, none⟩ = some (.int .i64 (vg l k).due) ∧ w.cell? ⟨(a.add (k * 4)).block, (a.add (k * 4)).off + 3, none⟩ = some (.slice S (vg l k).seed.length c) ∧ Has .u8 w w.heap.size S (vg l k).seed := by
  obtain ⟨a, S, c, e, hab, c0, c1, c2, c3, hs, _⟩ := h k hk
  exact ⟨a, S, c, e, hab, c0, c1, c2, c3, hs⟩
set_option maxRecDepth 100000 in
set_option maxHeartbeats 2000000 in
theorem sameK_true (K : KeyV) (A A' : Option Addr) (c c' : Nat) (w : World) (h : RdK w A c K) (h' : RdK w A' c' K) (few : FewK K) :
    Calls Tryd.prog 11 #[keyVal K A c, keyVal K A' c'] w fun e w' => e = .returned (.bool true) ∧ Below w.heap.size w w' := by
  have hk := keyAt_new h
  have hb1 : Below w.heap.size w (w.alloc (.cells #[.int .i64 K.id, .int .i64 K.ten, .int .i64 K.set, .slice A K.vs.length c] 24)) := (Below.refl _ _).alloc (Nat.le_refl _) _
  have hk' := keyAt_new (h'.next hb1)
  have hb2 : Below w.heap.size w ((w.alloc (.cells #[.int .i64 K.id, .int .i64 K.ten, .int .i64 K.set, .slice A K.vs.length c] 24)).alloc (.cells #[.int .i64 K.id, .int .i64 K.ten, .int .i64 K.set, .slice A' K.vs.length c'] 24)) := hb1.alloc (by simp) _
  have hk2 := hk.next ((Below.refl _ _).alloc (Nat.le_refl _) (.cells #[.int .i64 K.id, .int .i64 K.ten, .int .i64 K.set, .slice A' K.vs.length c'] 24))
  have HB := Lib.hid hb2
  have HK := Lib.hid hk2
  have HK' := Lib.hid hk'
  have n8 := few.1
  have HF := Lib.hid few.2
  clear h h' hk hk' hk2 hb1 hb2 few
  unfold keyVal
  go_enter Tryd.func11, Tryd.ntmps11
  go_wp2
  have hsz : (w.alloc (.cells #[.int .i64 K.id, .int .i64 K.ten, .int .i64 K.set, .slice A K.vs.length c] 24)).heap.size = w.heap.size + 1 := by simp
  rw [hsz] at HK'
  generalize hW : World.alloc (World.alloc _ _) _ = W at HB HK HK' ⊢
  clear hW hsz
  obtain ⟨n, hn⟩ : ∃ n, n = K.vs.length := ⟨_, rfl⟩
  have HN := Lib.hid hn
  rw [← hn] at n8
  clear hn
  go_loopw [5] (fun i wr => ∃ k : Nat, k ≤ n ∧ i = .int .i64 k ∧ Below W.heap.size W wr) (fun i _ => n - (intOf i).toNat)
  case atStart => exact ⟨0, by omega, rfl, Below.refl _ _⟩
  case round =>
    obtain ⟨k, hk, rfl, hb⟩ := hrel
    have hka := HK.out.next hb
    have hkb := HK'.out.next hb
    have q3 := hka.c3
    have q3' := hkb.c3
    rw [← HN.out] at q3 q3'
    have HW := Lib.hid hb
    clear hb
    by_cases hlt : k < n
    · obtain ⟨a, S, cs, rfl, hab, a0, a1, a2, a3, hs⟩ := cells4 hka.rd.has (k := k) (by rw [← HN.out]; exact hlt)
      obtain ⟨a', S', cs', rfl, hab', a0', a1', a2', a3', hs'⟩ := cells4 hkb.rd.has (k := k) (by rw [← HN.out]; exact hlt)
      have hcall := fun V hV => sameVer_true (vg K.vs k) S S' cs cs' V (has_next hs (w' := V) hV) (has_next hs' hV) (by have := HF.out k (by rw [← HN.out]; exact hlt); omega)
      clear hs hs' hab hab' hka hkb
      obtain ⟨v, hv⟩ : ∃ v, v = vg K.vs k := ⟨_, rfl⟩
      rw [← hv] at a0 a1 a2 a3 a0' a1' a2' a3' hcall
      clear hv
      have HC := Lib.hid hcall
      clear hcall
      have i1 : (k : Int) < (n : Int) := by omega
      have i2 : (0 : Int) ≤ (k : Int) := by omega
      go_wp2_with fail
      refine wp_region_still_tail 10 (by kernel_rfl) (by kernel_rfl) ?_
      simp only [List.take_succ_cons, List.take_zero, List.drop_succ_cons, List.drop_zero]
      change wpStill _ _ (World.drew _) (fun a' => wpList _ _ _ _ a' (World.drew _)) _ _
      obtain ⟨W2, hW2⟩ : ∃ W2, W2 = World.drew wr := ⟨_, rfl⟩
      have B3 : Hid (Below wr.heap.size wr W2) := by rw [hW2]; exact (Below.refl _ _).drew
      have e0 : W2.cell? (a.add (k * 4)) = some (.int .i64 v.n) := by rw [hW2]; exact a0
      have e1 : W2.cell? ⟨(a.add (k * 4)).block, (a.add (k * 4)).off + 1, none⟩ = some (.int .i64 v.st) := by rw [hW2]; exact a1
      have e2 : W2.cell? ⟨(a.add (k * 4)).block, (a.add (k * 4)).off + 2, none⟩ = some (.int .i64 v.due) := by rw [hW2]; exact a2
      have e3 : W2.cell? ⟨(a.add (k * 4)).block, (a.add (k * 4)).off + 3, none⟩ = some (.slice S v.seed.length cs) := by rw [hW2]; exact a3
      have e0' : W2.cell? (a'.add (k * 4)) = some (.int .i64 v.n) := by rw [hW2]; exact a0'
      have e1' : W2.cell? ⟨(a'.add (k * 4)).block, (a'.add (k * 4)).off + 1, none⟩ = some (.int .i64 v.st) := by rw [hW2]; exact a1'
      have e2' : W2.cell? ⟨(a'.add (k * 4)).block, (a'.add (k * 4)).off + 2, none⟩ = some (.int .i64 v.due) := by rw [hW2]; exact a2'
      have e3' : W2.cell? ⟨(a'.add (k * 4)).block, (a'.add (k * 4)).off + 3, none⟩ = some (.slice S' v.seed.length cs') := by rw [hW2]; exact a3'
      have f3 : W2.cell? ⟨w.heap.size, 3, none⟩ = some (.slice (some a) n c) := by rw [hW2]; exact q3
      have f3' : W2.cell? ⟨w.heap.size + 1, 3, none⟩ = some (.slice (some a') n c') := by rw [hW2]; exact q3'
      rw [← hW2]
      refine Stp.out ?_
      clear hW2 a0 a1 a2 a3 a0' a1' a2' a3' q3 q3'
      repeat (first | (refine Stp.skip rfl ?_) | (refine Stp.run rfl (fun J hJ => ?_); go_simp; refine hJ _ ?_; clear hJ J))
      refine Stp.nil ?_
      go_wp2_with (go_at_call 24; refine (HC.out _ B3.out).mono ?_; rintro e w' ⟨rfl, hb'⟩)
      go_roundw
      case rel => exact ⟨k + 1, by omega, by go_num, below_next (below_next HW.out B3.out) hb'⟩
      case measure => simp [intOf]; omega
    · obtain rfl : k = n := by omega
      go_wp2
      go_ret
      exact ⟨rfl, below_next HB.out HW.out⟩
end Go.Proofs.YtealebeacddbbaaDoor
