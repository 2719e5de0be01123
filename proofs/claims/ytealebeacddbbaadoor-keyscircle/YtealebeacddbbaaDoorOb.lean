/- Contracts: a version alone; a key is copied, by the program's own code. -/
import Derived.Test.YtealebeacddbbaaDoorOa
namespace Go.Proofs.YtealebeacddbbaaDoor
open Go.RowKit Slices

/-- a version's value, its seed there -/
def verVal (v : Ver) (S : Option Addr × Nat) : Value := .agg #[.int .i64 v.n, .int .i64 v.st, .int .i64 v.due, .slice S.1 v.seed.length S.2]
/-- a version is told whose seed the call made itself -/
def AloneTold (v : Ver) (w : World) (e : Ending) (w' : World) : Prop := ∃ S', e = .returned (verVal v S') ∧ OwnB w' w.heap.size S' v.seed ∧ Below w.heap.size w w'
set_option maxRecDepth 100000 in
set_option maxHeartbeats 2000000 in
theorem alone_any (v : Ver) (S : Option Addr × Nat) (w : World) (h : SeedIn w w.heap.size S v.seed) (hl : v.seed.length ≤ 3000) :
    Calls Tryd.prog 18 #[verVal v S] w (AloneTold v w) := by
  obtain ⟨x0, x1, x2, l⟩ := v
  unfold verVal
  simp only at h hl ⊢
  have r0 : ((w.alloc (.cells #[.int .i64 x0, .int .i64 x1, .int .i64 x2, .slice S.1 l.length S.2] 30)).alloc (.cells #[.int .i64 0, .int .i64 0, .int .i64 0, .slice none 0 0] 30)).heap[w.heap.size]? = some (.cells #[.int .i64 x0, .int .i64 x1, .int .i64 x2, .slice S.1 l.length S.2] 30 (0, 0)) := heap_alloc2_old w _ _
  have r1 : ((w.alloc (.cells #[.int .i64 x0, .int .i64 x1, .int .i64 x2, .slice S.1 l.length S.2] 30)).alloc (.cells #[.int .i64 0, .int .i64 0, .int .i64 0, .slice none 0 0] 30)).heap[w.heap.size + 1]? = some (.cells #[.int .i64 0, .int .i64 0, .int .i64 0, .slice none 0 0] 30 (0, 0)) := heap_alloc2_new w _ _
  have hb0 : Below w.heap.size w ((w.alloc (.cells #[.int .i64 x0, .int .i64 x1, .int .i64 x2, .slice S.1 l.length S.2] 30)).alloc (.cells #[.int .i64 0, .int .i64 0, .int .i64 0, .slice none 0 0] 30)) := ((Below.refl _ _).alloc (Nat.le_refl _) _).alloc (by simp) _
  have HI : Hid ((Tryd.prog.info? 30).map (·.size) = some 4) := by show _ = _; kernel_rfl
  have HC := Lib.hid (clone_any S l _ (⟨has_next h.1 hb0, h.2⟩ : SeedIn _ _ S l) hl)
  have hsz : ((w.alloc (.cells #[.int .i64 x0, .int .i64 x1, .int .i64 x2, .slice S.1 l.length S.2] 30)).alloc (.cells #[.int .i64 0, .int .i64 0, .int .i64 0, .slice none 0 0] 30)).heap.size = w.heap.size + 2 := by simp
  have R0 := Lib.hid r0
  have R1 := Lib.hid r1
  have B0 := Lib.hid hb0
  have HSZ := Lib.hid hsz
  clear h hl r0 r1 hb0 hsz
  go_enter Tryd.func18, Tryd.ntmps18
  go_wp2_with fail
  generalize World.alloc _ _ = W at R0 R1 B0 HSZ HC ⊢
  refine HC.out.mono ?_
  rintro e w1 ⟨S', rfl, ho, hb⟩
  have RA : Hid (w1.heap[w.heap.size]? = some (.cells #[.int .i64 x0, .int .i64 x1, .int .i64 x2, .slice S.1 l.length S.2] 30 (0, 0))) := (hb.block _ (by rw [HSZ.out]; omega)).trans R0.out
  have RB : Hid (w1.heap[w.heap.size + 1]? = some (.cells #[.int .i64 0, .int .i64 0, .int .i64 0, .slice none 0 0] 30 (0, 0))) := (hb.block _ (by rw [HSZ.out]; omega)).trans R1.out
  have HO : Hid (OwnB w1 w.heap.size S' l) := own_downS ho (by rw [HSZ.out]; omega)
  have B1 := Lib.hid (below_next B0.out hb)
  have y3 := cell_of_row _ _ 3 _ _ _ RA.out
  have g3 := frozen_of_row _ _ 3 _ _ RA.out
  clear ho hb HC
  obtain ⟨W2, hW2⟩ : ∃ W2, W2 = w1.setCell ⟨w.heap.size, 3, none⟩ (.slice S'.1 l.length S'.2) := ⟨_, rfl⟩
  have q0 : W2.heap[w.heap.size]? = some (.cells #[.int .i64 x0, .int .i64 x1, .int .i64 x2, .slice S'.1 l.length S'.2] 30 (0, 0)) := by rw [hW2]; exact heap_setCell_same w1 w.heap.size 3 _ _ (.slice S'.1 l.length S'.2) RA.out
  have q1 : W2.heap[w.heap.size + 1]? = some (.cells #[.int .i64 0, .int .i64 0, .int .i64 0, .slice none 0 0] 30 (0, 0)) := by rw [hW2]; exact row_far RB.out (by omega)
  have HO2 : Hid (OwnB W2 w.heap.size S' l) := by rw [hW2]; exact Lib.hid (HO.out.far RA.out (by decide))
  have B2 : Hid (Below w.heap.size w W2) := by rw [hW2]; exact Lib.hid (below_cell B1.out (Nat.le_refl _) _ _)
  have Q1 := Lib.hid q1
  obtain ⟨V, hV⟩ : ∃ V : Array Value, V = #[.int .i64 x0, .int .i64 x1, .int .i64 x2, .slice S'.1 l.length S'.2] := ⟨_, rfl⟩
  have HV1 : Hid (V.all (·.oneCell') = true) := by show _ = _; rw [hV]; simp [Value.oneCell']
  have HV2 : Hid (V.size = 4) := by show _ = _; rw [hV]; rfl
  rw [← hV] at q0
  have Q0 := Lib.hid q0
  have HVV := Lib.hid hV
  clear hV q0 q1 RA RB HO B1
  rw [hW2] at Q0 Q1
  go_wp2_with (first
    | (refine wpList_load_row rfl 30 _ rfl w.heap.size rfl 30 V (0, 0) _ Q0.out Tryd.underlying30 rfl (by rw [HV2.out]; exact HI.out) ?_; clear y3 g3)
    | (refine wpList_store_row rfl 30 _ _ rfl (w.heap.size + 1) V rfl rfl 30 _ Q1.out (by rw [HV2.out]; exact HI.out) (by rw [HV2.out]; rfl) HV1.out ?_))
  rw [← hW2] at Q1 ⊢
  refine bodyPost_ret (v := .agg V) ?_ rfl ?_
  · exact results_cell_row rfl _ _ (w.heap.size + 1) 30 _ (0, 0) _ rfl (setRow_heap _ _ _ _ 30 (0, 0) Q1.out) Tryd.underlying30 rfl (by rw [HV2.out]; exact HI.out)
  refine ⟨S', by rw [HVV.out]; rfl, HO2.out.set Q1.out (by decide), below_setRow B2.out (by omega) _⟩

/-- midway: the first k seeds are copied -/
def MidK (w : World) (K : KeyV) (A : Option Addr) (c : Nat) (VS : Nat → Option Addr × Nat) (k : Nat) (wr : World) : Prop := ∃ NS, wr.heap[w.heap.size]? = some (.cells #[.int .i64 K.id, .int .i64 K.ten, .int .i64 K.set, .slice A K.vs.length c] 24 (0, 0)) ∧ wr.heap[w.heap.size + 1]? = some (.cells #[.int .i64 0, .int .i64 0, .int .i64 0, .slice none 0 0] 24 (0, 0)) ∧ OwnM wr w.heap.size 30 4 A K.vs.length c (verF K.vs (mixS k NS VS)) ∧ (∀ j, j < k → OwnB wr w.heap.size (NS j) (vg K.vs j).seed) ∧ Below w.heap.size w wr
theorem addr0 (q n : Nat) : (⟨q, 0, none⟩ : Addr).add n = ⟨q, n, none⟩ := by
  unfold Addr.add
  split
  · simp_all
  · simp
theorem mid_start {w W : World} {K : KeyV} {A : Option Addr} {c : Nat} {VS : Nat → Option Addr × Nat} (h1 : W.heap[w.heap.size]? = some (.cells #[.int .i64 K.id, .int .i64 K.ten, .int .i64 K.set, .slice A K.vs.length c] 24 (0, 0))) (h2 : W.heap[w.heap.size + 1]? = some (.cells #[.int .i64 0, .int .i64 0, .int .i64 0, .slice none 0 0] 24 (0, 0))) (h3 : OwnM W w.heap.size 30 4 A K.vs.length c (verF K.vs VS)) (hb : Below w.heap.size w W) : MidK w K A c VS 0 W :=
  ⟨VS, h1, h2, by
    have e : mat 4 K.vs.length (verF K.vs (mixS 0 VS VS)) = mat 4 K.vs.length (verF K.vs VS) := mat_congr fun j r _ _ => by simp [verF, mixS]
    unfold OwnM
    rw [e]
    exact h3, fun j hj => by omega, hb⟩
/-- a whole version is stored -/
theorem mix_row {l : List Ver} {k n : Nat} {NS VS : Nat → Option Addr × Nat} (S : Option Addr × Nat) (hk : k < n) : mat 4 n (updM (updM (updM (updM (verF l (mixS k NS VS)) k 0 (.int .i64 (vg l k).n)) k 1 (.int .i64 (vg l k).st)) k 2 (.int .i64 (vg l k).due)) k 3 (.slice S.1 (vg l k).seed.length S.2)) = mat 4 n (verF l (mixS (k + 1) (fun j => if j = k then S else NS j) VS)) := mat_congr fun j r hj hr => by
  unfold updM
  rcases (by omega : r = 0 ∨ r = 1 ∨ r = 2 ∨ r = 3) with rfl | rfl | rfl | rfl
  · by_cases e : j = k
    · subst e; simp [verF]
    · simp [verF, e]
  · by_cases e : j = k
    · subst e; simp [verF]
    · simp [verF, e]
  · by_cases e : j = k
    · subst e; simp [verF]
    · simp [verF, e]
  · by_cases e : j = k
    · subst e; simp [verF, mixS]
    · have e2 : (j < k + 1) = (j < k) := by rw [eq_iff_iff]; omega
      simp [verF, mixS, e, e2]

set_option maxRecDepth 100000 in
set_option maxHeartbeats 4000000 in
theorem copied_any (K : KeyV) (A : Option Addr) (c : Nat) (w : World) (h : RdK w A c K) (few : K.vs.length ≤ 12) (fs : ∀ k, k < K.vs.length → (vg K.vs k).seed.length ≤ 3000) :
    Calls Tryd.prog 29 #[keyVal K A c] w (CopyK K w) := by
  obtain ⟨VS, hm, hs⟩ := hasV_places h.has
  have HNONE := Lib.hid h.none
  have HSd := Lib.hid hs
  have HFS := Lib.hid fs
  have HI : Hid ((Tryd.prog.info? 24).map (·.size) = some 4) := by show _ = _; kernel_rfl
  obtain ⟨n, hn⟩ : ∃ n, n = K.vs.length := ⟨_, rfl⟩
  have HN := Lib.hid hn
  have HM := Lib.hid hm
  clear h hm hs fs
  unfold keyVal
  rw [← hn] at few ⊢
  clear hn
  have r0 : ((w.alloc (.cells #[.int .i64 K.id, .int .i64 K.ten, .int .i64 K.set, .slice A n c] 24)).alloc (.cells #[.int .i64 0, .int .i64 0, .int .i64 0, .slice none 0 0] 24)).heap[w.heap.size]? = some (.cells #[.int .i64 K.id, .int .i64 K.ten, .int .i64 K.set, .slice A n c] 24 (0, 0)) := heap_alloc2_old w _ _
  have r1 : ((w.alloc (.cells #[.int .i64 K.id, .int .i64 K.ten, .int .i64 K.set, .slice A n c] 24)).alloc (.cells #[.int .i64 0, .int .i64 0, .int .i64 0, .slice none 0 0] 24)).heap[w.heap.size + 1]? = some (.cells #[.int .i64 0, .int .i64 0, .int .i64 0, .slice none 0 0] 24 (0, 0)) := heap_alloc2_new w _ _
  have hsz : ((w.alloc (.cells #[.int .i64 K.id, .int .i64 K.ten, .int .i64 K.set, .slice A n c] 24)).alloc (.cells #[.int .i64 0, .int .i64 0, .int .i64 0, .slice none 0 0] 24)).heap.size = w.heap.size + 2 := by simp
  have HB0 : Hid (Below w.heap.size w ((w.alloc (.cells #[.int .i64 K.id, .int .i64 K.ten, .int .i64 K.set, .slice A n c] 24)).alloc (.cells #[.int .i64 0, .int .i64 0, .int .i64 0, .slice none 0 0] 24))) := ((Below.refl _ _).alloc (Nat.le_refl _) _).alloc (by simp) _
  have R0 := Lib.hid r0
  have R1 := Lib.hid r1
  have HSZ := Lib.hid hsz
  clear r0 r1 hsz
  go_enter Tryd.func29, Tryd.ntmps29
  have y3 := cell_of_row _ _ 3 _ _ _ R0.out
  go_wp2_with fail
  clear y3
  generalize World.alloc (World.alloc _ _) _ = W at R0 R1 HB0 HSZ ⊢
  have hcl := cloneV_any (A, c) K.vs VS W (HM.out.next HB0.out) HNONE.out (by rw [← HN.out]; exact few)
  rw [← HN.out] at hcl
  refine hcl.mono ?_
  rintro e w1 ⟨S1, rfl, ho, hb⟩
  have RA : Hid (w1.heap[w.heap.size]? = some (.cells #[.int .i64 K.id, .int .i64 K.ten, .int .i64 K.set, .slice A n c] 24 (0, 0))) := (hb.block _ (by rw [HSZ.out]; omega)).trans R0.out
  have RB : Hid (w1.heap[w.heap.size + 1]? = some (.cells #[.int .i64 0, .int .i64 0, .int .i64 0, .slice none 0 0] 24 (0, 0))) := (hb.block _ (by rw [HSZ.out]; omega)).trans R1.out
  have HO1 : Hid (OwnM w1 w.heap.size 30 4 S1.1 n S1.2 (verF K.vs VS)) := own_downS ho (by rw [HSZ.out]; omega)
  have HB1 := Lib.hid (below_next HB0.out hb)
  have y4 := cell_of_row _ _ 3 _ _ _ RA.out
  have g4 := frozen_of_row _ _ 3 _ _ RA.out
  clear ho hb hcl R0 R1 HB0 HSZ
  have HZ : Hid (MidK w K S1.1 S1.2 VS 0 (w1.setCell ⟨w.heap.size, 3, none⟩ (.slice S1.1 n S1.2))) := by
    show MidK w K S1.1 S1.2 VS 0 _
    rw [HN.out]
    have q0 := heap_setCell_same w1 w.heap.size 3 _ _ (.slice S1.1 n S1.2) RA.out
    rw [HN.out] at q0
    refine mid_start q0 (row_far RB.out (by omega)) ?_ (below_cell HB1.out (Nat.le_refl _) _ _)
    have q1 := HO1.out
    rw [HN.out] at q1
    exact OwnM.far q1 RA.out (by decide)
  go_wp2
  generalize w1.setCell _ _ = W2 at HZ ⊢
  clear HO1 RA RB HB1 y4 g4 HM HNONE
  obtain ⟨A1, c1⟩ := S1
  simp only at HZ ⊢
  go_loopw [3, 4, 12] (fun _ _ i wr => ∃ k : Nat, k ≤ n ∧ i = .int .i64 k ∧ MidK w K A1 c1 VS k wr) (fun _ _ i _ => n - (intOf i).toNat)
  case atStart => exact ⟨0, by omega, rfl, HZ.out⟩
  case round =>
    obtain ⟨k, hk, rfl, NS, hr0, hr1, hm, ho, hb⟩ := hrel
    rw [← HN.out] at hr0 hm
    have y3 := cell_of_row _ _ 3 _ _ _ hr0
    have R0 := Lib.hid hr0
    have R1 := Lib.hid hr1
    have HM := Lib.hid hm
    have HO := Lib.hid ho
    have HB := Lib.hid hb
    clear hr0 hr1 hm ho hb HZ
    by_cases hlt : k < n
    · obtain ⟨a, rfl, hab, a0, ar⟩ := HM.out.has.row (j := k) hlt (by omega)
      have a1 := ar 1 (by omega) (by omega)
      have a2 := ar 2 (by omega) (by omega)
      have a3 := ar 3 (by omega) (by omega)
      have HSD := Lib.hid (HSd.out k (by rw [← HN.out]; exact hlt))
      have f1 := HFS.out k (by rw [← HN.out]; exact hlt)
      have e3 : verF K.vs (mixS k NS VS) k 3 = .slice (VS k).1 (vg K.vs k).seed.length (VS k).2 := by simp [verF, mixS]
      rw [e3] at a3
      have e0 : verF K.vs (mixS k NS VS) k 0 = .int .i64 (vg K.vs k).n := rfl
      have e1 : verF K.vs (mixS k NS VS) k 1 = .int .i64 (vg K.vs k).st := rfl
      have e2 : verF K.vs (mixS k NS VS) k 2 = .int .i64 (vg K.vs k).due := rfl
      rw [e0] at a0
      rw [e1] at a1
      rw [e2] at a2
      clear e0 e1 e2 e3 ar hab
      obtain ⟨S, hS⟩ : ∃ S, S = VS k := ⟨_, rfl⟩
      obtain ⟨v, hv⟩ : ∃ v, v = vg K.vs k := ⟨_, rfl⟩
      rw [← hS, ← hv] at a3 HSD
      rw [← hv] at f1 a0 a1 a2
      have HVV := Lib.hid hv
      clear hS hv
      obtain ⟨SA, sc⟩ := S
      simp only at a3
      go_wp2_with fail
      obtain ⟨W5, hW5⟩ : ∃ W5, W5 = wr.alloc (.cells #[.int .i64 v.n, .int .i64 v.st, .int .i64 v.due, .slice SA v.seed.length sc] 30) := ⟨_, rfl⟩
      have BN : Hid (Below wr.heap.size wr W5) := by rw [hW5]; exact (Below.refl _ _).alloc (Nat.le_refl _) _
      have x0 : W5.cell? ⟨wr.heap.size, 0, none⟩ = some (.int .i64 v.n) := by rw [hW5]; exact cell_of_row _ _ 0 _ _ _ (heap_alloc_new wr _)
      have x1 : W5.cell? ⟨wr.heap.size, 1, none⟩ = some (.int .i64 v.st) := by rw [hW5]; exact cell_of_row _ _ 1 _ _ _ (heap_alloc_new wr _)
      have x2 : W5.cell? ⟨wr.heap.size, 2, none⟩ = some (.int .i64 v.due) := by rw [hW5]; exact cell_of_row _ _ 2 _ _ _ (heap_alloc_new wr _)
      have x3 : W5.cell? ⟨wr.heap.size, 3, none⟩ = some (.slice SA v.seed.length sc) := by rw [hW5]; exact cell_of_row _ _ 3 _ _ _ (heap_alloc_new wr _)
      have RG : Hid (W5.heap[wr.heap.size]? = some (.cells #[.int .i64 v.n, .int .i64 v.st, .int .i64 v.due, .slice SA v.seed.length sc] 30 (0, 0))) := by show W5.heap[wr.heap.size]? = _; rw [hW5]; exact heap_alloc_new wr _
      obtain ⟨q, hqa, hq, hqs, cur, hcur⟩ := HM.out.at (by omega)
      injection hqa with hqa
      subst hqa
      have HCU : Hid (W5.heap[q]? = _) := (BN.out.block _ hqs).trans hcur
      clear hcur
      rw [← hW5]
      clear hW5 y3 a0 a1 a2 a3
      have R0' : Hid (W5.heap[w.heap.size]? = _) := (BN.out.block _ (Array.getElem?_eq_some_iff.1 R0.out).1).trans R0.out
      have R1' : Hid (W5.heap[w.heap.size + 1]? = _) := (BN.out.block _ (Array.getElem?_eq_some_iff.1 R1.out).1).trans R1.out
      have HM' := Lib.hid (HM.out.next BN.out)
      have HO' : Hid (∀ j, j < k → OwnB W5 w.heap.size (NS j) (vg K.vs j).seed) := fun j hj => (HO.out j hj).next BN.out
      have HB' := Lib.hid (below_next HB.out BN.out)
      obtain ⟨g, hg⟩ : ∃ g, g = wr.heap.size := ⟨_, rfl⟩
      rw [← hg] at x0 x1 x2 x3 RG hqs ⊢
      clear R0 R1 HM HO HB BN hg
      have y3 := cell_of_row _ _ 3 _ _ _ R0'.out
      refine wp_region_held_drew (S := fun W => W.cell? ⟨w.heap.size, 3, none⟩ = some (.slice (some ⟨q, 0, none⟩) n c1) ∧ W.cell? ⟨g, 0, none⟩ = some (.int .i64 v.n) ∧ W.cell? ⟨g, 1, none⟩ = some (.int .i64 v.st) ∧ W.cell? ⟨g, 2, none⟩ = some (.int .i64 v.due) ∧ W.cell? ⟨g, 3, none⟩ = some (.slice SA v.seed.length sc)) (by kernel_rfl) ⟨y3, x0, x1, x2, x3⟩ (fun hHeld => ?_)
      refine takeD (i := 0) (d := some 17) (v := .pointer (some ⟨w.heap.size, 3, none⟩)) rfl rfl (by kernel_rfl) (by kernel_rfl) (by kernel_rfl) (fun _ _ _ h => h) (Or.inl ⟨by rfl, (by rintro W ⟨hS, z0, z1, z2, z3⟩; go_simp)⟩) hHeld ?_
      try simp only [Act.put, List.setIfInBounds_toArray, List.set_cons_zero, List.set_cons_succ]
      refine takeD (i := 1) (d := some 18) (v := .slice (some ⟨q, 0, none⟩) n c1) rfl rfl (by kernel_rfl) (by kernel_rfl) (by kernel_rfl) (fun _ _ _ h => h) (Or.inl ⟨by rfl, (by rintro W ⟨hS, z0, z1, z2, z3⟩; go_simp)⟩) hHeld ?_
      try simp only [Act.put, List.setIfInBounds_toArray, List.set_cons_zero, List.set_cons_succ]
      refine takeD (i := 2) (d := some 19) (v := .int .i64 (k : Int)) rfl rfl (by kernel_rfl) (by kernel_rfl) (by kernel_rfl) (fun _ _ _ h => h) (Or.inl ⟨by rfl, (by rintro W ⟨hS, z0, z1, z2, z3⟩; go_simp)⟩) hHeld ?_
      try simp only [Act.put, List.setIfInBounds_toArray, List.set_cons_zero, List.set_cons_succ]
      refine takeD (i := 3) (d := some 20) (v := .agg #[.int .i64 v.n, .int .i64 v.st, .int .i64 v.due, .slice SA v.seed.length sc]) rfl rfl (by kernel_rfl) (by kernel_rfl) (by kernel_rfl) (fun _ _ _ h => h) (Or.inl ⟨by rfl, (by rintro W ⟨hS, z0, z1, z2, z3⟩; go_simp)⟩) hHeld ?_
      try simp only [Act.put, List.setIfInBounds_toArray, List.set_cons_zero, List.set_cons_succ]
      refine wpAnyH_ready (rs := [4]) (by kernel_rfl) (by simp) (AllReadyH.cons rfl (fun KK hK => ?_) AllReadyH.nil)
      go_simp
      refine (alone_any v (SA, sc) W5.drew ⟨(HSD.out.1.below (HB'.out.drew)).mono HB'.out.size, HSD.out.2⟩ f1).mono ?_
      rintro e w8 ⟨S2, rfl, ho8, hb8⟩
      have L8 : Hid (Below W5.heap.size W5 w8) := below_next (Below.refl _ _).drew hb8
      have R08 : Hid (w8.heap[w.heap.size]? = _) := (L8.out.block _ (Array.getElem?_eq_some_iff.1 R0'.out).1).trans R0'.out
      have R18 : Hid (w8.heap[w.heap.size + 1]? = _) := (L8.out.block _ (Array.getElem?_eq_some_iff.1 R1'.out).1).trans R1'.out
      have RC8 : Hid (w8.heap[q]? = _) := (L8.out.block _ (Array.getElem?_eq_some_iff.1 HCU.out).1).trans HCU.out
      have HM8 := Lib.hid (HM'.out.next L8.out)
      have HO8 : Hid (∀ j, j < k → OwnB w8 w.heap.size (NS j) (vg K.vs j).seed) := fun j hj => (HO'.out j hj).next L8.out
      have HB8 := Lib.hid (below_next HB'.out L8.out)
      have HX8 : Hid (OwnB w8 w.heap.size S2 v.seed) := own_downS ho8 HB'.out.size
      have RG8 : Hid (w8.heap[g]? = _) := (L8.out.block _ (Array.getElem?_eq_some_iff.1 RG.out).1).trans RG.out
      refine hK.out _ _ ⟨cell_of_row _ _ 3 _ _ _ R08.out, cell_of_row _ _ 0 _ _ _ RG8.out, cell_of_row _ _ 1 _ _ _ RG8.out, cell_of_row _ _ 2 _ _ _ RG8.out, cell_of_row _ _ 3 _ _ _ RG8.out⟩ (fun hHeld => ?_)
      clear hK KK ho8 hb8 x0 x1 x2 x3 y3 RG R0' R1' HM' HO' HB' HCU
      unfold verVal
      try simp only [Act.put, List.setIfInBounds_toArray, List.set_cons_zero, List.set_cons_succ]
      refine takeD (i := 5) (d := some 22) (v := .pointer (some ((⟨q, 0, none⟩ : Addr).add (k * 4)))) rfl rfl (by kernel_rfl) (by kernel_rfl) (by kernel_rfl) (fun _ _ _ h => h) (Or.inl ⟨by rfl, (by rintro W ⟨hS, z0, z1, z2, z3⟩; go_simp)⟩) hHeld ?_
      try simp only [Act.put, List.setIfInBounds_toArray, List.set_cons_zero, List.set_cons_succ]
      rw [addr0]
      have no : w.heap.size ≠ q := fun e => by
        have e0 := R08.out
        rw [e] at e0
        rw [e0] at RC8
        have e2 := RC8.out
        injection e2 with e2
        injection e2 with _ e2
        exact absurd e2 (by decide)
      have no1 : w.heap.size + 1 ≠ q := fun e => by
        have e0 := R18.out
        rw [e] at e0
        rw [e0] at RC8
        have e2 := RC8.out
        injection e2 with e2
        injection e2 with _ e2
        exact absurd e2 (by decide)
      have no2 : g ≠ q := by omega
      have fz0 := World.ownsRow.frozenAt HM8.out (k * 4)
      have fz1 := World.ownsRow.frozenAt HM8.out (k * 4 + 1)
      have fz2 := World.ownsRow.frozenAt HM8.out (k * 4 + 2)
      have fz3 := World.ownsRow.frozenAt HM8.out (k * 4 + 3)
      have cz0 := (World.ownsRow.cellAt HM8.out (k * 4 + 0) (place_lt hlt (by omega))).trans (mat_at 4 n _ hlt (by omega))
      have cz1 := (World.ownsRow.cellAt HM8.out (k * 4 + 1) (place_lt hlt (by omega))).trans (mat_at 4 n _ hlt (by omega))
      have cz2 := (World.ownsRow.cellAt HM8.out (k * 4 + 2) (place_lt hlt (by omega))).trans (mat_at 4 n _ hlt (by omega))
      have cz3 := (World.ownsRow.cellAt HM8.out (k * 4 + 3) (place_lt hlt (by omega))).trans (mat_at 4 n _ hlt (by omega))
      rw [Nat.add_zero] at cz0
      refine wpAnyH_ready (rs := [6]) (by kernel_rfl) (by simp) (AllReadyH.cons rfl (fun KK hK => ?_) AllReadyH.nil)
      go_simp
      clear fz0 fz1 fz2 fz3 cz0 cz1 cz2 cz3
      have HMid : Hid (MidK w K (some ⟨q, 0, none⟩) c1 VS (k + 1) ((((w8.setCell ⟨q, k * 4, none⟩ (.int .i64 v.n)).setCell ⟨q, k * 4 + 1, none⟩ (.int .i64 v.st)).setCell ⟨q, k * 4 + 2, none⟩ (.int .i64 v.due)).setCell ⟨q, k * 4 + 3, none⟩ (.slice S2.1 v.seed.length S2.2))) := by
        have g4 : w8.grownBy ((((w8.setCell ⟨q, k * 4, none⟩ (.int .i64 v.n)).setCell ⟨q, k * 4 + 1, none⟩ (.int .i64 v.st)).setCell ⟨q, k * 4 + 2, none⟩ (.int .i64 v.due)).setCell ⟨q, k * 4 + 3, none⟩ (.slice S2.1 v.seed.length S2.2)) (some q) :=
          grown_by_trans (grown_by_trans (grown_by_trans (grown_cell _ _ _ _) (grown_cell _ _ _ _)) (grown_cell _ _ _ _)) (grown_cell _ _ _ _)
        refine ⟨fun j => if j = k then S2 else NS j, by rw [← HN.out]; exact row_far (row_far (row_far (row_far R08.out no) no) no) no, row_far (row_far (row_far (row_far R18.out no1) no1) no1) no1, ?_, fun j hj => ?_, below_cell (below_cell (below_cell (below_cell HB8.out hq _ _) hq _ _) hq _ _) hq _ _⟩
        · have q1 := (((HM8.out.stored hlt (r := 0) (by omega) (.int .i64 v.n)).stored hlt (r := 1) (by omega) (.int .i64 v.st)).stored hlt (r := 2) (by omega) (.int .i64 v.due)).stored hlt (r := 3) (by omega) (.slice S2.1 v.seed.length S2.2)
          have q2 := mix_row (l := K.vs) (NS := NS) (VS := VS) S2 hlt
          rw [← HVV.out] at q2
          rw [← HN.out]
          unfold OwnM at q1 ⊢
          rw [q2] at q1
          exact q1
        · by_cases e : j = k
          · subst e
            have q1 := HX8.out
            simp only [if_true]
            rw [← HVV.out]
            exact World.ownsRow.kept q1 g4 (own_ne_ty q1 RC8.out (by decide))
          · have q1 := HO8.out j (by omega)
            simp only [if_neg e]
            exact World.ownsRow.kept q1 g4 (own_ne_ty q1 RC8.out (by decide))
      have hg9 : ((((w8.setCell ⟨q, k * 4, none⟩ (.int .i64 v.n)).setCell ⟨q, k * 4 + 1, none⟩ (.int .i64 v.st)).setCell ⟨q, k * 4 + 2, none⟩ (.int .i64 v.due)).setCell ⟨q, k * 4 + 3, none⟩ (.slice S2.1 v.seed.length S2.2)).heap[g]? = _ := row_far (row_far (row_far (row_far RG8.out no2) no2) no2) no2
      have hk9 : ((((w8.setCell ⟨q, k * 4, none⟩ (.int .i64 v.n)).setCell ⟨q, k * 4 + 1, none⟩ (.int .i64 v.st)).setCell ⟨q, k * 4 + 2, none⟩ (.int .i64 v.due)).setCell ⟨q, k * 4 + 3, none⟩ (.slice S2.1 v.seed.length S2.2)).heap[w.heap.size]? = _ := row_far (row_far (row_far (row_far R08.out no) no) no) no
      generalize World.setCell (World.setCell _ _ _) _ _ = W9 at HMid hg9 hk9 ⊢
      refine hK.out _ _ ⟨cell_of_row _ _ 3 _ _ _ hk9, cell_of_row _ _ 0 _ _ _ hg9, cell_of_row _ _ 1 _ _ _ hg9, cell_of_row _ _ 2 _ _ _ hg9, cell_of_row _ _ 3 _ _ _ hg9⟩ (fun hHeld => ?_)
      clear hK KK hg9 hk9 no no1 no2
      try simp only [Act.put, List.setIfInBounds_toArray, List.set_cons_zero, List.set_cons_succ]
      refine wpAnyH_done (by kernel_rfl) ?_ _
      go_wp2
      go_roundw
      case rel => exact ⟨k + 1, by omega, by go_num, HMid.out⟩
      case measure => simp [intOf]; omega
    · obtain rfl : k = n := by omega
      have hn := HN.out
      obtain ⟨V, hV⟩ : ∃ V : Array Value, V = #[.int .i64 K.id, .int .i64 K.ten, .int .i64 K.set, .slice A1 k c1] := ⟨_, rfl⟩
      have HV1 : Hid (V.all (·.oneCell') = true) := by show _ = _; rw [hV]; simp [Value.oneCell']
      have HV2 : Hid (V.size = 4) := by show _ = _; rw [hV]; rfl
      rw [← hV] at R0
      have HVV := Lib.hid hV
      clear hV y3
      go_wp2_with (first
        | (refine wpList_load_row rfl 24 _ rfl w.heap.size rfl 24 V (0, 0) _ R0.out Tryd.underlying24 rfl (by rw [HV2.out]; exact HI.out) ?_)
        | (refine wpList_store_row rfl 24 _ _ rfl (w.heap.size + 1) V rfl rfl 24 _ R1.out (by rw [HV2.out]; exact HI.out) (by rw [HV2.out]; rfl) HV1.out ?_))
      refine bodyPost_ret (v := .agg V) ?_ rfl ?_
      · exact results_cell_row rfl _ _ (w.heap.size + 1) 24 _ (0, 0) _ rfl (setRow_heap _ _ _ _ 24 (0, 0) R1.out) Tryd.underlying24 rfl (by rw [HV2.out]; exact HI.out)
      refine ⟨(A1, c1), ?_, ⟨NS, ?_, fun j hj => ?_⟩, below_setRow HB.out (by omega) _⟩
      · rw [HVV.out, hn]
        rfl
      · have q := HM.out.set (cs := V) R1.out (by decide)
        unfold OwnM at q ⊢
        rw [mix_end] at q
        rw [hn] at q
        exact q
      · exact (HO.out j (by omega)).set R1.out (by decide)
end Go.Proofs.YtealebeacddbbaaDoor
