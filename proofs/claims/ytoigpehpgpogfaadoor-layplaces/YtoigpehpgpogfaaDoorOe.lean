/- Several texts in one: Mm, Mn, Mo, Nq. -/
import Derived.Test.YtoigpehpgpogfaaDoorOc
import Derived.Test.YtoigpehpgpogfaaDoorOb
import Derived.Test.YtoigpehpgpogfaaDoorOd
/- Contract: hints of a set, ones where numbers say (the statements' own). -/
namespace Go.Proofs.YtoigpehpgpogfaaDoor
open Go.RowKit Slices Go.Proofs.YtoigpehpgpogfaaDoor.Bit

/-- hints under way: lists of the call's own, no two in one block, of this shape, with n ones -/
def MadeRow (w : World) (K n : Nat) (v : Value) (es : List Ent) (wr : World) : Prop :=
  OwnL w.heap.size v es wr ∧ Alone es ∧ HintShape K (nums es) ∧ (places (nums es) K).length = n ∧ Below w.heap.size w wr
def ZeroRow (w : World) (k : Nat) (v : Value) (es : List Ent) (wr : World) : Prop :=
  OwnL w.heap.size v es wr ∧ Alone es ∧ nums es = List.replicate k (List.replicate 256 0) ∧ Below w.heap.size w wr
theorem zero_shape {K : Nat} {es : List Ent} (h : nums es = List.replicate K (List.replicate 256 0)) : HintShape K (nums es) ∧ (places (nums es) K).length = 0 := by
  rw [h]
  have hg : ∀ i, i < K → (List.replicate K (List.replicate 256 (0 : Int))).getD i [] = List.replicate 256 0 := fun i hi => by
    rw [List.getD_eq_getElem?_getD, List.getElem?_replicate, if_pos hi]; rfl
  refine ⟨⟨List.length_replicate, fun i hi => by rw [hg i hi]; exact zero_poly⟩, ?_⟩
  have : ∀ j, j ≤ K → places (List.replicate K (List.replicate 256 (0 : Int))) j = [] := by
    intro j
    induction j with
    | zero => intro _; rfl
    | succ j ih =>
      intro hj
      show places _ j ++ oneAt _ 256 = []
      rw [ih (by omega), hg j (by omega), oneAt_zero]; rfl
  rw [this K (Nat.le_refl _)]; rfl
theorem nums_put (es : List Ent) {i : Nat} (hi : i < es.length) (j : Nat) (x : Int) : nums (es.set i (es[i].put j x)) = (nums es).set i (((nums es).getD i []).set j x) := by
  rw [nums_at es hi]
  unfold nums
  rw [List.map_set]; rfl

set_option maxRecDepth 100000 in
set_option maxHeartbeats 4000000 in
theorem made_any (K : Nat) (x1 x2 x3 x4 x5 x6 x7 x8 : Int) (A : Option Addr) (c : Nat) (ns : List Int) (w : World) (h : Has .i64 w w.heap.size A ns) (hn : ns.length ≤ 100) (hK0 : 1 ≤ K) (hK : K ≤ 8) :
    Calls Tryd.prog 35 #[.agg #[.int .i64 K, .int .i64 x1, .int .i64 x2, .int .i64 x3, .int .i64 x4, .int .i64 x5, .int .i64 x6, .int .i64 x7, .int .i64 x8], .slice A ns.length c] w
      fun e w' => ∃ B cB es n, e = .returned (.tuple #[.slice B es.length cB, .int .i64 (n : Nat)]) ∧ n ≤ 100 ∧ MadeRow w K n (.slice B es.length cB) es w' := by
  obtain ⟨i0, hi0, hz0, hz1, hz2⟩ := info_parts Tryd.info3
  obtain ⟨j0, hj0, hy0, hy1, hy2⟩ := info_parts Tryd.infoInts
  obtain ⟨N, hN⟩ : ∃ N : Nat, N = 256 := ⟨_, rfl⟩
  have n0 : N ≤ 256 := by omega
  have n1 : 256 ≤ N := by omega
  have HN := Lib.hid hN
  have H := Lib.hid h
  clear hN h
  go_enter Tryd.func35, Tryd.ntmps35
  go_wp2
  have hb2 : Below w.heap.size w (w.alloc (.cells #[.int .i64 K, .int .i64 x1, .int .i64 x2, .int .i64 x3, .int .i64 x4, .int .i64 x5, .int .i64 x6, .int .i64 x7, .int .i64 x8] 33)) := (Below.refl _ _).alloc (Nat.le_refl _) _
  have hn2 := Nine.new w 33 #[.int .i64 K, .int .i64 x1, .int .i64 x2, .int .i64 x3, .int .i64 x4, .int .i64 x5, .int .i64 x6, .int .i64 x7, .int .i64 x8]
  generalize hgs : w.heap.size = gs at hn2
  generalize World.alloc _ _ = w2 at hb2 hn2 ⊢
  have H2 := Lib.hid (has_next H.out hb2)
  have HB2 := Lib.hid hb2
  have HN2 := Lib.hid hn2
  clear hb2 hn2
  have HS0 : Hid (ZeroRow w2 0 (.slice none 0 0) [] w2) := ⟨⟨World.ownsRow_nil _ _ _ _, fun e he => by cases he⟩, alone_nil, rfl, Below.refl _ _⟩
  go_loopw [6, 7] (fun v i wr => ∃ (k : Nat) (es : List Ent), k ≤ K ∧ i = .int .i64 k ∧ ZeroRow w2 k v es wr) (fun _ i _ => K - (intOf i).toNat)
  case atStart => exact ⟨0, [], by omega, rfl, HS0.out⟩
  case round =>
    obtain ⟨k, es, hkK, rfl, hrow⟩ := hrel
    have HR := Lib.hid hrow
    have c0 : wr.cell? ⟨gs, 0, none⟩ = some (.int .i64 K) := (HN2.out.next hrow.2.2.2).cell 0
    have hes : es.length = k := by have := congrArg List.length hrow.2.2.1; rw [nums_len, List.length_replicate] at this; exact this
    have HES := Lib.hid hes
    have hsz : w2.heap.size ≤ wr.heap.size := hrow.2.2.2.size
    clear hrow HS0 hes
    by_cases hlt : k < K
    · have bk : decide ((k : Int) < (K : Int)) = true := by rw [decide_eq_true_iff]; omega
      go_wp2_with (first
        | (at_make; refine wpList_make_full _ rfl _ _ 22 rfl wr.heap.size 3 i0 (.int .i64 0) 1 Tryd.underlying22 hi0 hz0 hz1 _ _ _ _ N rfl rfl (by omega) (by omega) (by rw [hz2]; omega) (by unfold maxLen; omega) (Nat.le_refl _) ?_; intro w3 hown hgrow; rw [made_ints] at hown; have hb3 : Below wr.heap.size wr w3 := (Below.refl _ _).grown hgrow (Nat.le_refl _) (by simp); have HO := Lib.hid hown; clear hown; have HB3 := Lib.hid hb3; clear hgrow hb3)
        | (at_builtin; refine append_any _ rfl (.tmp 18) (.tmp 20) 45 rfl w2.heap.size 22 j0 (.slice none 0 0) 1 24 Tryd.underlying45 hj0 hy0 hy1 hy2 rfl (by decide) u6 k _ rfl (by have := (HR.out.1.next HB3.out).1; rw [HES.out] at this; exact this.alloc _) (some ⟨w3.heap.size, 0, none⟩) 1 1 [.slice (some ⟨wr.heap.size, 0, none⟩) N N] rfl rfl (fun h => by cases h) (fun ad e => by injection e with e; subst e; exact World.news_of_block (cs := #[.slice (some ⟨wr.heap.size, 0, none⟩) N N]) (t := 22) (fr := (0, 0)) (heap_alloc_new w3 _)) (by simp [Value.oneCell']) (by unfold maxLen; omega) (by omega) (by have := HB3.out.size; simp; omega) ?_; intro v4 w4 hown4 hgrow4; have O4 := Lib.hid hown4; have G4 := Lib.hid hgrow4; clear hown4 hgrow4))
      have lN : (List.replicate 256 (0 : Int)).length = N := by rw [List.length_replicate, ← HN.out]
      have HLN := Lib.hid lN
      have hP4 : OwnL w2.heap.size v4 (es ++ [⟨some ⟨wr.heap.size, 0, none⟩, N, List.replicate 256 0⟩]) w4 := by
        refine OwnL.push (HR.out.1.next HB3.out) (e := ⟨some ⟨wr.heap.size, 0, none⟩, N, List.replicate 256 0⟩) ?_ ((Below.refl _ _).alloc (Nat.le_refl _) _) G4.out ?_
        · have := own_down HO.out hsz
          show w3.ownsRow _ _ _ (.slice _ (List.replicate 256 (0 : Int)).length _) (List.replicate 256 (0 : Int)).length (ints .i64 (List.replicate 256 0))
          rw [HLN.out]; rw [HN.out] at this ⊢; exact this
        · rw [HES.out]
          show w4.ownsRow _ _ _ _ _ (_ ++ [.slice _ (List.replicate 256 (0 : Int)).length _])
          rw [HLN.out]; exact O4.out
      have hA4 : Alone (es ++ [⟨some ⟨wr.heap.size, 0, none⟩, N, List.replicate 256 0⟩]) := by
        refine Alone.push HR.out.2.1 HR.out.1 (fun q hq => ?_)
        have e : some wr.heap.size = some q := hq
        injection e with e
        omega
      have hB4 : Below w2.heap.size w2 w4 := ((below_next HR.out.2.2.2 HB3.out).alloc (by have := HB3.out.size; omega) _).grown G4.out (by have := HB3.out.size; simp; omega) (fun j hj => (HR.out.1.1.lt j hj).1)
      have HP4 := Lib.hid hP4
      have HB4 := Lib.hid hB4
      have HA4 := Lib.hid hA4
      clear hP4 hB4 hA4 lN
      go_roundw
      case rel =>
        refine ⟨k + 1, es ++ [⟨some ⟨wr.heap.size, 0, none⟩, N, List.replicate 256 0⟩], by omega, by go_num, HP4.out, HA4.out, ?_, HB4.out⟩
        rw [show List.replicate (k + 1) (List.replicate 256 (0 : Int)) = List.replicate k (List.replicate 256 0) ++ [List.replicate 256 0] from List.replicate_succ', ← HR.out.2.2.1]
        unfold nums
        rw [List.map_append]; rfl
      case measure => simp [intOf]; omega
    · have bk : decide ((k : Int) < (K : Int)) = false := by rw [decide_eq_false_iff_not]; omega
      have e : k = K := by omega
      subst e
      obtain ⟨gB, cB, hv, hgB⟩ := own_form HR.out.1.1 (by have := HES.out; omega)
      subst hv
      obtain ⟨z1, z2⟩ := zero_shape HR.out.2.2.1
      have HS1 : Hid (MadeRow w2 k 0 (.slice (some ⟨gB, 0, none⟩) es.length cB) es wr) := ⟨HR.out.1, HR.out.2.1, z1, z2, HR.out.2.2.2⟩
      have hek : es.length = k := HES.out
      rw [hek] at HS1 ⊢
      clear z1 z2 hek HR HES hgB
      go_wp2
      clear c0
      go_loopw [8, 9] (fun n i wr => ∃ (j m : Nat) (es : List Ent), j ≤ ns.length ∧ m ≤ j ∧ i = .int .i64 j ∧ n = .int .i64 m ∧ es.length = k ∧ MadeRow w2 k m (.slice (some ⟨gB, 0, none⟩) k cB) es wr) (fun _ i _ => ns.length - (intOf i).toNat)
      case atStart => exact ⟨0, 0, es, by omega, by omega, rfl, rfl, by have := HS1.out.2.2.1.1; rwa [nums_len] at this, HS1.out⟩
      case round =>
        rename World => wi
        obtain ⟨j, m, fs, hj, hmj, rfl, rfl, hfl, hrow⟩ := hrel
        have HRW := Lib.hid hrow
        have HFL := Lib.hid hfl
        clear hrow hfl HS1
        have c0 : wi.cell? ⟨gs, 0, none⟩ = some (.int .i64 k) := (HN2.out.next HRW.out.2.2.2.2).cell 0
        by_cases hjl : j < ns.length
        · obtain ⟨ad, rfl, hab, hac⟩ := (H2.out.below HRW.out.2.2.2.2) j hjl
          generalize ns.getD j 0 = z at hac
          have q1 : (j : Int) < (ns.length : Int) := by omega
          have q2 : (0 : Int) ≤ (j : Int) := by omega
          go_wp2
          go_quiet ((go_at_call 25; exact quiet_eq (lawLow_any _ _ _ (by omega) (by omega))))
          obtain ⟨p0, p1⟩ : 0 ≤ low z (k : Int) ∧ low z (k : Int) < k := ⟨low_lo z (by omega), low_hi z (by omega)⟩
          obtain ⟨p2, p3⟩ : 0 ≤ low (wrap64 (z.tdiv 8)) 256 ∧ low (wrap64 (z.tdiv 8)) 256 < 256 := ⟨low_lo _ (by omega), low_hi _ (by omega)⟩
          generalize low z (k : Int) = za at p0 p1 ⊢
          generalize low (wrap64 (z.tdiv 8)) 256 = zb at p2 p3 ⊢
          obtain ⟨a, rfl⟩ : ∃ a : Nat, za = a := ⟨za.toNat, by omega⟩
          obtain ⟨d, rfl⟩ : ∃ d : Nat, zb = d := ⟨zb.toNat, by omega⟩
          have hak : a < fs.length := by have := HFL.out; omega
          have hdr : MadeRow w2 k m (.slice (some ⟨gB, 0, none⟩) k cB) fs (wi.drewN nq) := by
            obtain ⟨r1, r2, r3, r4, r5⟩ := HRW.out
            exact ⟨⟨r1.1, r1.2⟩, r2, r3, r4, below_drewN r5 nq⟩
          generalize hwq : wi.drewN nq = wq at hdr ⊢
          have HD := Lib.hid hdr
          clear hdr hwq c0 hac q1 q2 hab
          have hm3 : wq.ownsRow w2.heap.size 3 1 (eval fs[a]) fs[a].l.length (ints .i64 fs[a].l) := HD.out.1.2 _ (List.getElem_mem hak)
          have hpoly := HD.out.2.2.1.2 a (by omega)
          rw [nums_at fs hak] at hpoly
          have hl256 : fs[a].l.length = 256 := hpoly.1
          obtain ⟨ga, ca, hev, hgB2⟩ := own_form hm3 (by omega)
          have hAc : fs[a].A = some ⟨ga, 0, none⟩ ∧ fs[a].c = ca := by unfold eval at hev; injection hev with e1 _ e3; exact ⟨e1, e3⟩
          have hor : wq.ownsRow w2.heap.size 22 1 (.slice (some ⟨gB, 0, none⟩) k cB) k (fs.map eval) := by have := HD.out.1.1; rw [HFL.out] at this; exact this
          have hcell := hor.cellAt a (by omega)
          rw [List.getElem?_map, List.getElem?_eq_getElem hak] at hcell
          have hc : wq.cell? ⟨gB, a, none⟩ = some (.slice (some ⟨ga, 0, none⟩) 256 ca) := by
            have e : eval fs[a] = .slice (some ⟨ga, 0, none⟩) 256 ca := by rw [hev, hl256]
            rw [hcell]; show some (eval fs[a]) = _; rw [e]
          have hm3' : wq.ownsRow w2.heap.size 3 1 (.slice (some ⟨ga, 0, none⟩) fs[a].l.length ca) fs[a].l.length (ints .i64 fs[a].l) := by
            have := hm3; rw [hev] at this; exact this
          have cI := own_cell hm3' (k := d) (by omega)
          have fI := hm3'.frozenAt d
          have h01 := hpoly.2 d (by omega)
          have hput := HD.out.1.put HD.out.2.1 hak hAc.1 d 1
          have hal := HD.out.2.1.put hak d 1
          have HCNT : Hid (fs[a].l.getD d 0 ≠ 1 → MadeRow w2 k (m + 1) (.slice (some ⟨gB, 0, none⟩) k cB) (fs.set a (fs[a].put d 1)) (wq.setCell ⟨ga, d, none⟩ (.int .i64 1))) := fun hne => by
            have hnk := nums_at fs hak
            have hlen : (nums fs).length = k := HD.out.2.2.1.1
            refine ⟨hput, hal, ?_, ?_, HD.out.2.2.2.2.setCell hgB2 _⟩
            · rw [nums_put fs hak]; exact shape_set HD.out.2.2.1 (by omega) (by omega)
            · rw [nums_put fs hak, places_set (by omega) (by rw [hnk]; omega) (by omega) (by rw [hnk]; exact hne), if_pos (by omega), HD.out.2.2.2.1]
          generalize fs[a].l.getD d 0 = xv at cI h01 HCNT
          clear hor hm3 hpoly hcell hm3' hput hal hev hAc hl256 hgB2
          rcases h01 with rfl | rfl
          · have HNX := Lib.hid (HCNT.out (by omega))
            go_wp2
            go_roundw
            case rel => exact ⟨j + 1, m + 1, _, by omega, by omega, by go_num, by go_num, by rw [List.length_set]; exact HFL.out, HNX.out⟩
            case measure => simp [intOf]; omega
          · go_wp2
            go_roundw
            case rel => exact ⟨j + 1, m, fs, by omega, by omega, by go_num, rfl, HFL.out, HD.out⟩
            case measure => simp [intOf]; omega
        · go_wp2
          go_ret2
          have hfk := HFL.out
          refine ⟨some ⟨gB, 0, none⟩, cB, fs, m, by rw [hfk]; rfl, by omega, ?_⟩
          rw [hfk]
          obtain ⟨r1, r2, r3, r4, r5⟩ := HRW.out
          exact ⟨⟨own_down r1.1 HB2.out.size, fun e he => own_down (r1.2 e he) HB2.out.size⟩, r2, r3, r4, below_next HB2.out r5⟩
end Go.Proofs.YtoigpehpgpogfaaDoor

/- Contracts: lists that are not alike. -/
namespace Go.Proofs.YtoigpehpgpogfaaDoor
open Go.RowKit Slices Go.Proofs.YtoigpehpgpogfaaDoor.Bit

theorem first_other {l l' : List Int} (hl : l.length = l'.length) (h : l ≠ l') : ∃ j, j < l.length ∧ l.getD j 0 ≠ l'.getD j 0 := by
  apply Classical.byContradiction
  intro g
  apply h
  apply List.ext_getElem hl
  intro i h1 h2
  have : l.getD i 0 = l'.getD i 0 := Classical.byContradiction fun q => g ⟨i, h1, q⟩
  rw [List.getD_eq_getElem?_getD, List.getD_eq_getElem?_getD, List.getElem?_eq_getElem h1, List.getElem?_eq_getElem h2] at this
  exact this

set_option maxRecDepth 100000 in
set_option maxHeartbeats 1000000 in
theorem same_false (A A' : Option Addr) (c c' B : Nat) (l l' : List Int) (w : World) (hn : l.length ≤ 4000) (h : Has .i64 w B A l) (h' : Has .i64 w B A' l') (hl : l.length = l'.length) (hne : l ≠ l') :
    Calls Tryd.prog 19 #[.slice A l.length c, .slice A' l'.length c'] w fun e w' => e = .returned (.bool false) ∧ ∃ n, w' = w.drewN n := by
  obtain ⟨j, hj, hb⟩ := first_other hl hne
  have t1 : ((l.length : Int) != (l'.length : Int)) = false := by rw [bne_eq_false_iff_eq]; omega
  have HB := Lib.hid hb
  have l0 : l.length ≤ l'.length := by omega
  have l1 : l'.length ≤ l.length := by omega
  clear hne hb hl
  go_enter Tryd.func19, Tryd.ntmps19
  go_wp2
  go_loopw [5] (fun i wr => ∃ k n : Nat, k ≤ j ∧ i = .int .i64 k ∧ wr = w.drewN n) (fun i _ => l.length - (intOf i).toNat)
  case atStart => exact ⟨0, 0, Nat.zero_le _, rfl, rfl⟩
  case round =>
    obtain ⟨k, n, hk, rfl, rfl⟩ := hrel
    have hlt : k < l.length := by omega
    obtain ⟨a, rfl, _, ha⟩ := h k hlt
    obtain ⟨a', rfl, _, ha'⟩ := h' k (by omega)
    by_cases hx : l.getD k 0 = l'.getD k 0
    · have hkj : k ≠ j := fun e => by subst e; exact HB.out hx
      have hk' : k + 1 ≤ j := by omega
      rw [hx] at ha
      generalize l'.getD k 0 = x at ha ha'
      clear hkj hx
      go_wp2
      go_quiet (fail)
      go_wp2
      go_roundw
      case rel => exact ⟨k + 1, n + nq, by omega, by go_num, rfl⟩
      case measure => simp [intOf]; omega
    · generalize l.getD k 0 = x at ha hx
      generalize l'.getD k 0 = y at ha' hx
      have d : (x != y) = true := by rw [bne_iff_ne]; exact hx
      clear hx
      go_wp2
      go_quiet (fail)
      go_wp2
      go_ret
      exact ⟨rfl, n + nq, by rw [World.drewN_drewN]⟩
end Go.Proofs.YtoigpehpgpogfaaDoor

/- Contracts: lists of lists that are not alike. -/
namespace Go.Proofs.YtoigpehpgpogfaaDoor
open Go.RowKit Slices Go.Proofs.YtoigpehpgpogfaaDoor.Bit

set_option maxRecDepth 100000 in
set_option maxHeartbeats 1000000 in
theorem same_short (A A' : Option Addr) (c c' : Nat) (l l' : List Int) (w : World) (hl : l.length ≠ l'.length) :
    Calls Tryd.prog 19 #[.slice A l.length c, .slice A' l'.length c'] w fun e w' => e = .returned (.bool false) ∧ ∃ n, w' = w.drewN n := by
  have t1 : ((l.length : Int) != (l'.length : Int)) = true := by rw [bne_iff_ne]; omega
  clear hl
  go_enter Tryd.func19, Tryd.ntmps19
  go_wp2
  go_ret
  exact ⟨rfl, 0, rfl⟩

theorem same_other (A A' : Option Addr) (c c' B n n' : Nat) (l l' : List Int) (w : World) (he : l ≠ l') (e1 : n = l.length) (e2 : n' = l'.length) (hn : l.length ≤ 4000) (h : Has .i64 w B A l) (h' : Has .i64 w B A' l') :
    Calls Tryd.prog 19 #[.slice A n c, .slice A' n' c'] w fun e w' => e = .returned (.bool false) ∧ ∃ n, w' = w.drewN n := by
  subst e1 e2
  by_cases hl : l.length = l'.length
  · exact same_false A A' c c' B l l' w hn h h' hl he
  · exact same_short A A' c c' l l' w hl

theorem first_apart {l l' : List (List Int)} (hl : l.length = l'.length) (h : l ≠ l') : ∃ j, j < l.length ∧ l.getD j [] ≠ l'.getD j [] := by
  apply Classical.byContradiction
  intro g
  apply h
  apply List.ext_getElem hl
  intro i h1 h2
  have : l.getD i [] = l'.getD i [] := Classical.byContradiction fun q => g ⟨i, h1, q⟩
  rw [List.getD_eq_getElem?_getD, List.getD_eq_getElem?_getD, List.getElem?_eq_getElem h1, List.getElem?_eq_getElem h2] at this
  exact this

set_option maxRecDepth 100000 in
set_option maxHeartbeats 1000000 in
theorem samePolys_false (A A' : Option Addr) (c c' B : Nat) (es ds : List Ent) (w : World) (h : HasL w B A es) (h' : HasL w B A' ds) (hlen : es.length = ds.length) (he : nums es ≠ nums ds) (hn : es.length ≤ 4000) (hl : ∀ i (h : i < es.length), es[i].l.length ≤ 4000) :
    Calls Tryd.prog 34 #[.slice A es.length c, .slice A' ds.length c'] w fun e w' => e = .returned (.bool false) ∧ ∃ n, w' = w.drewN n := by
  obtain ⟨j, hj0, hb⟩ := first_apart (by rw [nums_len, nums_len, hlen]) he
  have hj : j < es.length := by rwa [nums_len] at hj0
  have t1 : ((es.length : Int) != (ds.length : Int)) = false := by rw [bne_eq_false_iff_eq]; omega
  have l0 : es.length ≤ ds.length := by omega
  have l1 : ds.length ≤ es.length := by omega
  have H := Lib.hid h
  have H' := Lib.hid h'
  have HB := Lib.hid hb
  have HL := Lib.hid hl
  clear h h' he hl hlen hb hj0
  go_enter Tryd.func34, Tryd.ntmps34
  go_wp2
  go_loopw [5] (fun i wr => ∃ k n : Nat, k ≤ j ∧ i = .int .i64 k ∧ wr = w.drewN n) (fun i _ => es.length - (intOf i).toNat)
  case atStart => exact ⟨0, 0, by omega, rfl, rfl⟩
  case round =>
    obtain ⟨k, n, hk, rfl, hw⟩ := hrel
    have HW := Lib.hid hw
    have hlt : k < es.length := by omega
    have hltd : k < ds.length := by omega
    obtain ⟨⟨a, e, _, ha0⟩, hf⟩ := H.out k hlt
    subst e
    obtain ⟨⟨a', e, _, ha0'⟩, hf'⟩ := H'.out k hltd
    subst e
    have hk1 := nums_at es hlt
    have hk2 := nums_at ds hltd
    have hll := HL.out k hlt
    have hx : es[k].l = ds[k].l → k ≠ j := fun q e => by subst e; exact HB.out (by rw [hk1, hk2, q])
    have HX := Lib.hid hx
    have ha : wr.cell? (a.add k) = some (.slice es[k].A es[k].l.length es[k].c) := by rw [hw]; exact ha0
    have ha' : wr.cell? (a'.add k) = some (.slice ds[k].A ds[k].l.length ds[k].c) := by rw [hw]; exact ha0'
    have HF : Hid (Has .i64 wr B es[k].A es[k].l) := by show Has _ _ _ _ _; rw [hw]; exact hf
    have HF' : Hid (Has .i64 wr B ds[k].A ds[k].l) := by show Has _ _ _ _ _; rw [hw]; exact hf'
    clear hk1 hk2 hx hf hf' ha0 ha0' hw
    generalize es[k].l = le at ha HF HX hll
    generalize es[k].A = Ae at ha HF
    generalize es[k].c = ce at ha
    generalize ds[k].l = ld at ha' HF' HX
    generalize ds[k].A = Ad at ha' HF'
    generalize ds[k].c = cd at ha'
    have q1 : (k : Int) < (es.length : Int) := by omega
    have q2 : (k : Int) < (ds.length : Int) := by omega
    have q3 : (0 : Int) ≤ (k : Int) := by omega
    by_cases hel : le = ld
    · have hkj : k ≠ j := HX.out hel
      have hk' : k + 1 ≤ j := by omega
      have HEL := Lib.hid hel
      clear hel hkj
      go_wp2
      go_quiet ((go_at_call 19; exact quiet_more (same_alike Ae Ad ce cd B _ _ le ld _ HEL.out rfl rfl (by omega) (HF.out.drewN _) (HF'.out.drewN _))))
      go_wp2
      go_roundw
      case rel => exact ⟨k + 1, n + nq, by omega, by go_num, by rw [HW.out, World.drewN_drewN]⟩
      case measure => simp [intOf]; omega
    · have HEL := Lib.hid hel
      clear hel
      go_wp2
      go_quiet ((go_at_call 19; exact quiet_more (same_other Ae Ad ce cd B _ _ le ld _ HEL.out rfl rfl (by omega) (HF.out.drewN _) (HF'.out.drewN _))))
      go_wp2
      go_ret
      exact ⟨rfl, n + nq, by rw [HW.out, World.drewN_drewN]⟩
end Go.Proofs.YtoigpehpgpogfaaDoor

/- The law LayPlaces, walked. -/
namespace Go.Proofs.YtoigpehpgpogfaaDoor
open Go.RowKit Slices Go.Proofs.YtoigpehpgpogfaaDoor.Bit

set_option maxRecDepth 100000 in
set_option maxHeartbeats 1000000 in
theorem layPlaces_big (x y z : Int) (A : Option Addr) (c n : Nat) (w : World) (hn : n ≤ 4611686018427387904) (h : 100 < n) (hg : Han w) :
    Calls Tryd.prog 6 #[.int .i64 x, .slice A n c, .int .i64 z, .int .u8 y] w fun e w' => e = .returned (.bool true) ∧ Below w.heap.size w w' := by
  have HG := Lib.hid hg
  clear hg
  go_enter Tryd.func6, Tryd.ntmps6
  go_wp2_with (go_at_call 8; refine (awake_any layOk _ HG.out).mono ?_; rintro e w' ⟨rfl, hb⟩)
  go_ret
  exact ⟨rfl, hb⟩

set_option maxRecDepth 100000 in
set_option maxHeartbeats 8000000 in
theorem layPlaces_small (x z : Int) (Y : Nat) (hY : Y < 256) (A : Option Addr) (c : Nat) (ns : List Int) (w : World) (h : Has .i64 w w.heap.size A ns) (hn : ns.length ≤ 100) (hg : Han w) :
    Calls Tryd.prog 6 #[.int .i64 x, .slice A ns.length c, .int .i64 z, .int .u8 Y] w fun e w' => e = .returned (.bool true) ∧ Below w.heap.size w w' := by
  obtain ⟨t, ht⟩ : ∃ t, t = low x 3 := ⟨_, rfl⟩
  have t0 : 0 ≤ t := by rw [ht]; exact low_lo x (by omega)
  have t1 : t < 3 := by rw [ht]; exact low_hi x (by omega)
  have HLW : Hid (∀ w : World, Calls Tryd.prog 25 #[.int .i64 x, .int .i64 3] w fun e w' => e = .returned (.int .i64 t) ∧ w = w') := fun w => by rw [ht]; exact lawLow_any x 3 w (by omega) (by omega)
  have hs := set_low t0 t1
  obtain ⟨x1, x2, x3, x4, x6, x7, x8, hx⟩ := set_kw hs
  obtain ⟨K0, K1, W0, W1⟩ := kw_bd (1 + t)
  obtain ⟨hf1, hf2⟩ := read_facts hs
  generalize kOf (1 + t) = K at hx K0 K1 hf1 hf2
  generalize wOf (1 + t) = W at hx W0 W1 hf1 hf2
  have HX := Lib.hid hx
  have HS := Lib.hid hs
  have H := Lib.hid h
  have HG := Lib.hid hg
  have HF1 := Lib.hid hf1
  have HF2 := Lib.hid hf2
  clear hx h hs hg hf1 hf2 ht
  go_enter Tryd.func6, Tryd.ntmps6
  go_wp2_with (first
    | (go_at_call 25; refine (HLW.out _).mono ?_; rintro e w' ⟨rfl, rfl⟩)
    | (go_at_call 14; refine (refSet_any (1 + t) _).mono ?_; rw [HX.out, HS.out]; rintro e w1 ⟨rfl, hb⟩; have HB := Lib.hid hb; clear hb))
  have hb2 : Below w.heap.size w (w1.alloc (.cells #[.int .i64 K, .int .i64 x1, .int .i64 x2, .int .i64 x3, .int .i64 x4, .int .i64 W, .int .i64 x6, .int .i64 x7, .int .i64 x8] 33)) := HB.out.alloc HB.out.size _
  have hn2 := Nine.new w1 33 #[.int .i64 K, .int .i64 x1, .int .i64 x2, .int .i64 x3, .int .i64 x4, .int .i64 W, .int .i64 x6, .int .i64 x7, .int .i64 x8]
  generalize w1.heap.size = gs at hn2
  generalize World.alloc _ _ = w2 at hb2 hn2 ⊢
  have H2 := Lib.hid (has_next H.out hb2)
  have HB2 := Lib.hid hb2
  have HN2 := Lib.hid hn2
  clear HB hb2 hn2 H HLW
  refine (made_any K x1 x2 x3 x4 W x6 x7 x8 A c ns w2 H2.out hn K0 K1).mono ?_
  rintro e w3 ⟨B, cB, es, n, rfl, hn100, hol, hal, hsh, hpl, hb3⟩
  have HOL := Lib.hid hol
  have HSH := Lib.hid hsh
  have HPL := Lib.hid hpl
  have HB3 := Lib.hid (below_next HB2.out hb3)
  have HN3 := Lib.hid (HN2.out.next hb3)
  have HEL : Hid (es.length = K) := by have := hsh.1; rwa [nums_len] at this
  have HLL : Hid (∀ i (h : i < es.length), es[i].l.length ≤ 4000) := fun i hi => by
    have := (hsh.2 i (by have := HEL.out; omega)).1
    rw [nums_at es hi] at this
    omega
  have e1 : es.length ≤ 8 := by have := HEL.out; omega
  clear hol hal hsh hpl hb3 HB2 HN2 H2
  by_cases hnw : W < n
  · have HC : Hid (Calls Tryd.prog 27 #[.int .i64 (1 + t), .slice B es.length cB] w3 (ResP w3 [] 5)) := by
      have q := layOk2.hints (1 + t) B cB es w3 HOL.out.has (by omega) HLL.out
      have ee : hintsE K W (nums es) = 5 := hintsE_over HSH.out (by rw [HPL.out]; exact hnw)
      have eb : hintsB K W (nums es) = [] := by unfold hintsB; rw [ee, if_neg (by omega)]
      rw [(HF1.out _).1, (HF1.out _).2, ee, eb] at q
      exact q
    go_wp2_with fail
    refine HC.out.mono ?_
    rintro e w4 ⟨Ab, cb, v4, rfl, ho, hv, hb4⟩
    have HV := Lib.hid hv
    have HB4 := Lib.hid (below_next HB3.out hb4)
    have c5 : w4.cell? ⟨gs, 5, none⟩ = some (.int .i64 W) := (HN3.out.next hb4).cell 5
    clear ho hv hb4
    go_wp2_with fail
    refine (num_any 5 v4 w4 (HG.out.below HB4.out) HV.out).mono ?_
    rintro e w5 ⟨rfl, hb5⟩
    have HB5 := Lib.hid (below_next HB4.out hb5)
    clear hb5 c5
    go_wp2_with (go_at_call 8; refine (awake_any layOk _ (HG.out.below HB5.out)).mono ?_; rintro e w6 ⟨rfl, hb6⟩; have HB6 := Lib.hid (below_next HB5.out hb6); clear hb6)
    go_ret
    exact ⟨rfl, HB6.out⟩
  · have hle : (places (nums es) K).length ≤ W := by rw [HPL.out]; omega
    have HLE := Lib.hid hle
    obtain ⟨b, hb⟩ : ∃ b, b = hintsL K W (nums es) := ⟨_, rfl⟩
    have hbl : b.length = W + K := by rw [hb]; exact outL_len hle (by rw [counts_len]; exact Nat.le_refl _)
    have hbf : Fit 8 b := by rw [hb]; exact hints_fit (by omega) hle
    have HBF := Lib.hid hbf
    have HBL := Lib.hid hbl
    have HBE := Lib.hid hb
    have HC : Hid (Calls Tryd.prog 27 #[.int .i64 (1 + t), .slice B es.length cB] w3 (ResP w3 b 0)) := by
      have q := layOk2.hints (1 + t) B cB es w3 HOL.out.has (by omega) HLL.out
      have ee : hintsE K W (nums es) = 0 := hintsE_ok HSH.out hle
      have eb : hintsB K W (nums es) = b := by unfold hintsB; rw [ee, if_pos rfl, hb]
      rw [(HF1.out _).1, (HF1.out _).2, ee, eb] at q
      exact q
    have HRD : Hid (readL W b K = nums es) := by show readL W b K = _; rw [hb]; exact read_hints HSH.out hle
    have HUN : Hid (UnOk' K W b) := by
      refine ⟨?_, ?_⟩
      · rw [HRD.out]; exact hintsE_ok HSH.out hle
      · rw [HRD.out]; exact hb.symm
    obtain ⟨N, hN⟩ : ∃ N, N = b.length := ⟨_, rfl⟩
    have HNN := Lib.hid hN
    have N1 : N ≤ W + K := by omega
    have N2 : W + K ≤ N := by omega
    clear hle hb hbl hbf hN
    go_wp2_with fail
    refine HC.out.mono ?_
    rintro e w4 ⟨Ab, cb, v4, rfl, ho, hv, hb4⟩
    have ev := isErr_zero hv
    subst ev
    rw [← HNN.out] at ho ⊢
    obtain ⟨gb, cb', eo, hgb⟩ := own_form ho (by omega)
    injection eo with eo1 eo2 eo3
    subst eo1
    subst eo3
    have hcap := own_cap ho
    have HO4 := Lib.hid ho
    have HGB := Lib.hid hgb
    have HB4 := Lib.hid (below_next HB3.out hb4)
    have H34 : Hid (Below w3.heap.size w3 w4) := hb4
    have c5 : w4.cell? ⟨gs, 5, none⟩ = some (.int .i64 W) := (HN3.out.next hb4).cell 5
    clear ho hv hb4 hgb eo2
    have HC4 : Hid (Calls Tryd.prog 29 #[.int .i64 (1 + t), .slice (some ⟨gb, 0, none⟩) N cb] w4 (ResV w4 (nums es) 0)) := by
      have q := layOk2.unhint (1 + t) (some ⟨gb, 0, none⟩) cb b w4 (own_has HO4.out) HBF.out (by rw [← HNN.out]; omega) (by rw [← HNN.out]; exact hcap)
      obtain ⟨r1, r2⟩ := (HF2.out b HBL.out).1 HUN.out
      rw [r1, r2, HRD.out, ← HNN.out] at q
      exact q
    go_wp2_with fail
    refine HC4.out.mono ?_
    rintro e w5 ⟨Az, cz, zs, v5, rfl, hz, hal5, hnz, hv5, hb5⟩
    have ev := isErr_zero hv5
    subst ev
    have HZ5 := Lib.hid hz
    have HNZ := Lib.hid hnz
    have HB5 := Lib.hid (below_next HB4.out hb5)
    have H35 : Hid (Below w3.heap.size w3 w5) := below_next H34.out hb5
    have HO5 := Lib.hid (own_next HO4.out hb5)
    have c50 : w5.cell? ⟨gs, 0, none⟩ = some (.int .i64 K) := (HN3.out.next H35.out).cell 0
    have c55 : w5.cell? ⟨gs, 5, none⟩ = some (.int .i64 W) := (HN3.out.next H35.out).cell 5
    have tN : ((N : Int) != (W : Int) + (K : Int)) = false := by rw [bne_eq_false_iff_eq]; omega
    have HZL : Hid (zs.length = es.length) := by have := congrArg List.length hnz; rwa [nums_len, nums_len] at this
    have HZLL : Hid (∀ i (h : i < zs.length), zs[i].l.length ≤ 4000) := fun i hi => by
      have q := HLL.out i (by rw [← HZL.out]; exact hi)
      rw [← nums_at zs hi, hnz, nums_at es (by rw [← HZL.out]; exact hi)]
      exact q
    clear hz hal5 hnz hv5 hb5 c5 HC HC4 HO4 HB4
    go_wp2_with fail
    refine (samePolys_true Az B cz cB w5.heap.size zs es w5 HZ5.out.has ((HOL.out.has.below H35.out).mono H35.out.size) HNZ.out (by rw [HZL.out]; omega) HZLL.out).mono ?_
    rintro e w6 ⟨rfl, n6, hw6⟩
    have hb6 : Below w5.heap.size w5 w6 := by rw [hw6]; exact below_drewN (Below.refl _ _) n6
    have HB6 := Lib.hid (below_next HB5.out hb6)
    have H36 : Hid (Below w3.heap.size w3 w6) := below_next H35.out hb6
    have HO6 := Lib.hid (own_next HO5.out hb6)
    clear hw6 hb6 c50 c55 tN HO5 HB5 HZ5 HNZ H34 H35 HZL HZLL
    obtain ⟨J, hJ⟩ : ∃ J : Nat, low z N = J := ⟨(low z N).toNat, by have := low_lo z (n := N) (by omega); omega⟩
    have J1 : J < N := by have := low_hi z (n := (N : Int)) (by omega); omega
    have HLJ : Hid (∀ w : World, Calls Tryd.prog 25 #[.int .i64 z, .int .i64 N] w fun e w' => e = .returned (.int .i64 J) ∧ w = w') := fun w => by rw [← hJ]; exact lawLow_any z N w (by omega) (by omega)
    obtain ⟨X, hX, X1, _⟩ := HBF.out.at (i := J) (by rw [← HNN.out]; exact J1)
    have X2 : X < 256 := X1
    have cJ := own_cell HO6.out (k := J) J1
    rw [hX] at cJ
    have fJ := HO6.out.frozenAt J
    have hxy : bits .xor .u8 (X : Int) (Y : Int) = ((X ^^^ Y : Nat) : Int) := xor_byte X2 hY
    have X3 : X ^^^ Y < 256 := Nat.xor_lt_two_pow (n := 8) X2 hY
    have HX0 : Hid (X ^^^ Y = X ↔ Y = 0) := by
      constructor
      · intro e
        have : X ^^^ (X ^^^ Y) = X ^^^ X := by rw [e]
        rwa [← Nat.xor_assoc, Nat.xor_self, Nat.zero_xor] at this
      · rintro rfl; exact Nat.xor_zero X
    have HXE := Lib.hid hX
    obtain ⟨V, hV⟩ : ∃ V, V = X ^^^ Y := ⟨_, rfl⟩
    rw [← hV] at hxy X3
    have HVV := Lib.hid hV
    clear hJ hX X1 hV
    go_wp2_with (go_at_call 25; refine (HLJ.out _).mono ?_; rintro e w' ⟨rfl, rfl⟩)
    have HO7 : Hid ((w6.setCell ⟨gb, J, none⟩ (.int .u8 V)).ownsRow w3.heap.size 5 1 (.slice (some ⟨gb, 0, none⟩) N cb) N (ints .u8 (b.set J V))) := own_set HO6.out J V
    have HB7 : Hid (Below w.heap.size w (w6.setCell ⟨gb, J, none⟩ (.int .u8 V))) := HB6.out.setCell (Nat.le_trans HB3.out.size HGB.out) _
    have H37 : Hid (Below w3.heap.size w3 (w6.setCell ⟨gb, J, none⟩ (.int .u8 V))) := H36.out.setCell HGB.out _
    generalize w6.setCell ⟨gb, J, none⟩ (.int .u8 V) = w7 at HO7 HB7 H37 ⊢
    obtain ⟨b', hb'⟩ : ∃ b', b' = b.set J (V : Int) := ⟨_, rfl⟩
    have HBB : Hid (b'.length = W + K) := by show b'.length = _; rw [hb', List.length_set]; exact HBL.out
    have HBF' : Hid (Fit 8 b') := by show Fit 8 b'; rw [hb']; exact fit_set HBF.out J (by omega) (by omega)
    have HSM : Hid (b' = b ↔ Y = 0) := by
      show b' = b ↔ Y = 0
      rw [← HX0.out, ← HVV.out]
      constructor
      · intro e
        have q : (b.set J (V : Int)).getD J 0 = b.getD J 0 := by rw [← hb', e]
        rw [List.getD_eq_getElem?_getD, List.getElem?_set, if_pos rfl, if_pos (by rw [← HNN.out]; exact J1), HXE.out] at q
        have : (V : Int) = X := q
        omega
      · intro e
        rw [hb', e]
        refine getD_ext (by rw [List.length_set]) fun j hj => ?_
        rw [List.length_set] at hj
        rw [List.getD_eq_getElem?_getD, List.getElem?_set]
        by_cases ej : J = j
        · subst ej
          rw [if_pos rfl, if_pos hj, HXE.out]; rfl
        · rw [if_neg ej, ← List.getD_eq_getElem?_getD]
    have ho7 := HO7.out
    rw [← hb'] at ho7
    have HO8 := Lib.hid ho7
    have HN' : Hid (N = b'.length) := by show N = b'.length; rw [hb', List.length_set]; exact HNN.out
    clear ho7 HO7 HO6 cJ fJ hxy hb' H36 HB6 HLJ
    have HQ := layOk2.unhint (1 + t) (some ⟨gb, 0, none⟩) cb b' w7 (own_has HO8.out) HBF'.out (by rw [← HN'.out]; omega) (by rw [← HN'.out]; exact hcap)
    rw [← HN'.out] at HQ
    by_cases hu : UnOk' K W b'
    · obtain ⟨r1, r2⟩ := (HF2.out b' HBB.out).1 hu
      rw [r1, r2] at HQ
      have HC7 := Lib.hid HQ
      have HU := Lib.hid hu
      clear HQ r1 r2 hu
      go_wp2_with fail
      refine HC7.out.mono ?_
      rintro e w8 ⟨Aq, cq, qs, v8, rfl, hz8, _, hnq, hv8, hb8⟩
      have ev := isErr_zero hv8
      subst ev
      have HZ8 := Lib.hid hz8
      have HB8 := Lib.hid (below_next HB7.out hb8)
      have H38 : Hid (Below w3.heap.size w3 w8) := below_next H37.out hb8
      have HQN := Lib.hid hnq
      have HQL : Hid (qs.length = es.length) := by have := congrArg List.length hnq; rw [nums_len, readL_len] at this; show qs.length = es.length; rw [this, HEL.out]
      have HQLL : Hid (∀ i (h : i < qs.length), qs[i].l.length ≤ 4000) := fun i hi => by
        have hiK : i < K := by have := HQL.out; have := HEL.out; omega
        have q := ((read_shape W b' K).2 i hiK).1
        rw [← hnq, nums_at qs hi] at q
        omega
      clear hz8 hnq hv8 hb8 HC7
      by_cases hy : Y = 0
      · have HEQ : Hid (nums qs = nums es) := by show nums qs = nums es; rw [HQN.out, HSM.out.2 hy, HRD.out]
        subst hy
        go_wp2_with fail
        refine (samePolys_true Aq B cq cB w8.heap.size qs es w8 HZ8.out.has ((HOL.out.has.below H38.out).mono H38.out.size) HEQ.out (by rw [HQL.out]; omega) HQLL.out).mono ?_
        rintro e w9 ⟨rfl, n9, hw9⟩
        have hb9 : Below w8.heap.size w8 w9 := by rw [hw9]; exact below_drewN (Below.refl _ _) n9
        have HB9 := Lib.hid (below_next HB8.out hb9)
        clear hw9 hb9
        go_wp2_with (go_at_call 8; refine (awake_any layOk _ (HG.out.below HB9.out)).mono ?_; rintro e wa ⟨rfl, hba⟩; have HBA := Lib.hid (below_next HB9.out hba); clear hba)
        go_ret
        exact ⟨rfl, HBA.out⟩
      · have HNE : Hid (nums qs ≠ nums es) := fun e => by
          have q := HU.out.2
          rw [← HQN.out, e, ← HBE.out] at q
          exact hy (HSM.out.1 q.symm)
        have dY : ((Y : Int) == 0) = false := by rw [beq_eq_false_iff_ne]; omega
        go_wp2_with fail
        refine (samePolys_false Aq B cq cB w8.heap.size qs es w8 HZ8.out.has ((HOL.out.has.below H38.out).mono H38.out.size) HQL.out HNE.out (by rw [HQL.out]; omega) HQLL.out).mono ?_
        rintro e w9 ⟨rfl, n9, hw9⟩
        have hb9 : Below w8.heap.size w8 w9 := by rw [hw9]; exact below_drewN (Below.refl _ _) n9
        have HB9 := Lib.hid (below_next HB8.out hb9)
        clear hw9 hb9
        go_wp2_with (go_at_call 8; refine (awake_any layOk _ (HG.out.below HB9.out)).mono ?_; rintro e wa ⟨rfl, hba⟩; have HBA := Lib.hid (below_next HB9.out hba); clear hba)
        go_ret
        exact ⟨rfl, HBA.out⟩
    · obtain ⟨r1, r2⟩ := (HF2.out b' HBB.out).2 hu
      rw [r1, r2] at HQ
      have HC7 := Lib.hid HQ
      clear HQ r1 r2 hu
      go_wp2_with fail
      refine HC7.out.mono ?_
      rintro e w8 ⟨Aq, cq, qs, v8, rfl, hz8, _, hnq, hv8, hb8⟩
      obtain ⟨q8, rfl⟩ := isErr_some hv8 (by decide)
      have HV8 := Lib.hid hv8
      have HB8 := Lib.hid (below_next HB7.out hb8)
      have eq0 := nums_nil hnq
      rw [eq0]
      clear hz8 hnq hv8 hb8 HC7 eq0
      go_wp2_with fail
      refine (num_any 4 _ w8 (HG.out.below HB8.out) HV8.out).mono ?_
      rintro e w9 ⟨rfl, hb9⟩
      have HB9 := Lib.hid (below_next HB8.out hb9)
      clear hb9
      go_wp2_with (go_at_call 8; refine (awake_any layOk _ (HG.out.below HB9.out)).mono ?_; rintro e wa ⟨rfl, hba⟩; have HBA := Lib.hid (below_next HB9.out hba); clear hba)
      go_ret
      exact ⟨rfl, HBA.out⟩
end Go.Proofs.YtoigpehpgpogfaaDoor

