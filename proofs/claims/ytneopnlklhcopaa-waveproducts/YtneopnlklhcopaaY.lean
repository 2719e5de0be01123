/- The law PolyDots, walked. -/
import Derived.Test.YtneopnlklhcopaaX
namespace Go.Proofs.Ytneopnlklhcopaa
open Go.RowKit Slices Go.Proofs.Ytneopnlklhcopaa.Ring

theorem own_shape {w : World} {B t n : Nat} {v : Value} {xs : List Value} (h : w.ownsRow B t 1 v n xs) : ∃ A c, v = .slice A n c := by
  rcases h.2 with ⟨rfl, rfl⟩ | ⟨g, c, _, rfl, _⟩
  · exact ⟨_, _, rfl⟩
  · exact ⟨_, _, rfl⟩
theorem pDot_ln (A A' : Option Addr) (c c' : Nat) (es ds : List Ent) (n : Nat) (w : World) (he : ds.length = n) (h : HasL w w.heap.size A es) (h' : HasL w w.heap.size A' ds) (hn : es.length ≤ 300) (hm : ds.length ≤ 300)
    (hle : ∀ i (h : i < es.length), es[i].l.length ≤ 300) (hld : ∀ i (h : i < ds.length), ds[i].l.length ≤ 300) :
    Calls Try.prog 34 #[.slice A es.length c, .slice A' n c'] w (Res w (dotL (nums es) (nums ds))) := by subst he; exact pDot_res A A' c c' es ds w h h' hn hm hle hld
theorem refDot_ln (A A' : Option Addr) (c c' : Nat) (es ds : List Ent) (n : Nat) (w : World) (he : ds.length = n) (h : HasL w w.heap.size A es) (h' : HasL w w.heap.size A' ds) (hn : es.length ≤ 300) (hm : ds.length ≤ 300)
    (hle : ∀ i (h : i < es.length), es[i].l.length ≤ 300) (hld : ∀ i (h : i < ds.length), ds[i].l.length ≤ 300) :
    Calls Try.prog 35 #[.slice A es.length c, .slice A' n c'] w (Res w (dotL (nums es) (nums ds))) := by subst he; exact refDot_res A A' c c' es ds w h h' hn hm hle hld
theorem pNorm_ln (A : Option Addr) (c : Nat) (es : List Ent) (n : Nat) (w : World) (he : es.length = n) (h : HasL w w.heap.size A es) (hn : es.length ≤ 300) (hl : ∀ i (h : i < es.length), es[i].l.length ≤ 300) :
    Calls Try.prog 28 #[.slice A n c] w fun e w' => e = .returned (.int .i64 (normL (nums es))) ∧ ∃ n, w' = w.drewN n := by subst he; exact pNorm_res A c es w h hn hl
theorem refNorm_ln (A : Option Addr) (c : Nat) (es : List Ent) (n : Nat) (w : World) (he : es.length = n) (h : HasL w w.heap.size A es) (hn : es.length ≤ 300) (hl : ∀ i (h : i < es.length), es[i].l.length ≤ 300) :
    Calls Try.prog 29 #[.slice A n c] w fun e w' => e = .returned (.int .i64 (normL (nums es))) ∧ ∃ n, w' = w.drewN n := by subst he; exact refNorm_res A c es w h hn hl
theorem own_form22 {w : World} {base n : Nat} {v : Value} {xs : List Value} (h : w.ownsRow base 22 1 v n xs) (hn : 0 < n) : ∃ g c, v = .slice (some ⟨g, 0, none⟩) n c ∧ base ≤ g := by
  rcases h.2 with ⟨_, h0⟩ | ⟨g, c, cur, hv, hb, _⟩
  · omega
  · exact ⟨g, c, hv, hb⟩
theorem cut_first {B c : Nat} {g : Nat} {es : List Ent} {w : World} (h : Polys B (.slice (some ⟨g, 0, none⟩) es.length c) es w) (h0 : 0 < es.length) :
    HasL (w.setCell ⟨g, 0, none⟩ (.slice es[0].A 9 es[0].c)) (w.setCell ⟨g, 0, none⟩ (.slice es[0].A 9 es[0].c)).heap.size (some ⟨g, 0, none⟩) (⟨es[0].A, es[0].c, es[0].l.take 9⟩ :: es.tail) := by
  have hs : (w.setCell ⟨g, 0, none⟩ (.slice es[0].A 9 es[0].c)).heap.size = w.heap.size := by simp [World.setCell]
  have hgl : g < w.heap.size := (h.1.lt g rfl).2
  have hst := h.1.stored 0 (.slice es[0].A 9 es[0].c)
  have keep : ∀ e ∈ es, Has (w.setCell ⟨g, 0, none⟩ (.slice es[0].A 9 es[0].c)) (w.setCell ⟨g, 0, none⟩ (.slice es[0].A 9 es[0].c)).heap.size e.A e.l := fun e he =>
    own_read ((h.2 e he).1.kept hst.2 (own_ne (h.2 e he).1 h.1))
  have cell : ∀ k, k < es.length → (w.setCell ⟨g, 0, none⟩ (.slice es[0].A 9 es[0].c)).cell? ⟨g, k, none⟩ = ((es.map eval).set 0 (.slice es[0].A 9 es[0].c))[k]? := fun k hk => hst.1.cellAt k (by omega)
  intro k hk
  have hk' : k < es.length := by rw [List.length_cons, List.length_tail] at hk; omega
  have ha : (⟨g, k, none⟩ : Addr) = (⟨g, 0, none⟩ : Addr).add k := by unfold Addr.add; split <;> simp_all
  rcases Nat.eq_zero_or_pos k with rfl | hp
  · have hl9 : (es[0].l.take 9).length = 9 := by rw [List.length_take, (h.2 _ (List.getElem_mem h0)).2.1]; rfl
    refine ⟨⟨_, rfl, by rw [hs]; exact hgl, ?_⟩, ?_⟩
    · rw [← ha, cell 0 hk', List.getElem?_set, if_pos rfl, if_pos (by rw [List.length_map]; exact h0)]
      show some (Value.slice es[0].A 9 es[0].c) = some (.slice es[0].A (es[0].l.take 9).length es[0].c)
      rw [hl9]
    · show Has _ _ es[0].A (es[0].l.take 9)
      intro j hj
      have hj' : j < es[0].l.length := by rw [List.length_take] at hj; omega
      obtain ⟨a, e, hb, hc⟩ := keep _ (List.getElem_mem h0) j hj'
      refine ⟨a, e, hb, ?_⟩
      rw [hc, List.getD_eq_getElem?_getD, List.getD_eq_getElem?_getD, List.getElem?_take, if_pos (by rw [List.length_take] at hj; omega)]
  · obtain ⟨j, rfl⟩ : ∃ j, k = j + 1 := ⟨k - 1, by omega⟩
    have e1 : (⟨es[0].A, es[0].c, es[0].l.take 9⟩ :: es.tail)[j + 1] = es[j + 1] := by simp
    rw [e1]
    refine ⟨⟨_, rfl, by rw [hs]; exact hgl, ?_⟩, keep _ (List.getElem_mem hk')⟩
    rw [← ha, cell (j + 1) hk', List.getElem?_set, if_neg (by omega), List.getElem?_map, List.getElem?_eq_getElem hk']; rfl
theorem has_cell {w : World} {B : Nat} {A : Option Addr} {l : List Int} (h : Has w B A l) {j : Nat} {u : Value} (hu : (ints l)[j]? = some u) {ad : Addr} (e : A = some ad) : w.cell? (ad.add j) = some u := by
  have hj : j < l.length := by rw [← ints_length l]; exact (List.getElem?_eq_some_iff.mp hu).1
  obtain ⟨a, e', _, hc⟩ := h j hj
  rw [e] at e'
  injection e' with e'
  subst e'
  rw [hc, ← ints_at hj, hu]
theorem has_block {w : World} {B C : Nat} {A : Option Addr} {l : List Int} (h : Has w B A l) {j : Nat} {u : Value} (hu : (ints l)[j]? = some u) {ad : Addr} (e : A = some ad) (hB : B ≤ C) : ad.block < C := by
  have hj : j < l.length := by rw [← ints_length l]; exact (List.getElem?_eq_some_iff.mp hu).1
  obtain ⟨a, e', hb, _⟩ := h j hj
  rw [e] at e'
  injection e' with e'
  subst e'
  omega

set_option maxRecDepth 100000 in
set_option maxHeartbeats 8000000 in
theorem dots_small (A : Option Addr) (c : Nat) (ns : List Int) (a1 a2 : Int) (bad : Bool) (w : World) (hf : Has w w.heap.size A ns) (hA : A = none → ns.length = 0 ∧ c = 0) (h1 : ns.length ≤ 300) (TB : Hid (Tab w)) :
    Calls Try.prog 5 #[.slice A ns.length c, .int .i64 a1, .int .i64 a2, .bool bad] w fun e w' => e = .returned (.bool true) ∧ Below w.heap.size w w' := by
  obtain ⟨i0, hi0, hz0, hz1, hz2⟩ := info_parts Try.info3
  obtain ⟨j0, hj0, hy0, hy1, hy2⟩ := info_parts Try.info22
  obtain ⟨n1, hn1, hl1⟩ := low_nat a1 5 (by omega)
  obtain ⟨n2, hn2, hl2⟩ := low_nat a2 5 (by omega)
  have HN1 := Lib.hid hn1
  have HN2 := Lib.hid hn2
  have HF := Lib.hid hf
  have HA := Lib.hid hA
  clear hn1 hn2 hf hA
  go_enter Try.func5, Try.ntmps5
  go_wp2
  go_loopw [9, 11] (fun v i wr => ∃ (k : Nat) (es : List Ent), k ≤ n1 ∧ es.length = k ∧ i = .int .i64 k ∧ Polys w.heap.size v es wr ∧ Below w.heap.size w wr) (fun _ i _ => n1 - (intOf i).toNat)
  case atStart => exact ⟨0, [], by omega, rfl, rfl, ⟨World.ownsRow_nil _ _ _ _, fun e he => by cases he⟩, Below.refl _ _⟩
  case round =>
    obtain ⟨k, es, hk, hes, rfl, hP, hB⟩ := hrel
    have P0 := Lib.hid hP
    have B0 := Lib.hid hB
    have HES := Lib.hid hes
    clear hP hB hes
    by_cases hlt : k < n1
    · have bk : decide ((k : Int) < (n1 : Int)) = true := by rw [decide_eq_true_iff]; omega
      have hsz : w.heap.size ≤ wr.heap.size := B0.out.size
      have HNS := Lib.hid (HF.out.below B0.out)
      go_wp2_with (first
        | (go_at_call 33; refine (low_as HN1.out _ (by omega) (by omega)).mono ?_; rintro e w' ⟨rfl, rfl⟩)
        | (at_builtin; refine append_any _ rfl (.tmp 25) (.tmp 26) 22 rfl wr.heap.size 3 i0 (.int .i64 0) 1 8 Try.underlying22 hi0 hz0 hz1 hz2 rfl (by decide) _ 1 _ rfl (World.ownsRow_lit wr #[.int .i64 (k : Int)] 1 (Nat.le_refl _) (by unfold maxLen; omega) rfl) A ns.length c (ints ns) rfl (by rw [ints_length]; omega) HA.out (by intro ad e j u hu; exact ((Below.refl wr.heap.size wr).alloc (Nat.le_refl _) _).cell (by rw [add_block]; exact (has_block HNS.out hu e hsz)) |>.trans (has_cell HNS.out hu e)) (ints_one ns) (by unfold maxLen; omega) (by omega) (by simp) ?_; intro v1 w2 hown1 hgrow1; obtain ⟨g1, c1, rfl, hg1⟩ := own_form hown1 (by omega); have O2 := Lib.hid hown1; have B2 := Lib.hid (((Below.refl wr.heap.size wr).alloc (Nat.le_refl _) _).grown hgrow1 (by simp) (fun k hk => by cases hk; exact Nat.le_refl _)); clear hown1 hgrow1)
        | (go_at_call 32; refine (lowp_len _ _ ((k : Int) :: ns) _ w2 (by simp; omega) (own_has (l := (k : Int) :: ns) O2.out) (by simp; omega)).mono ?_; rintro e w3 ⟨f, hp, gf, cf, rfl, ho, hb⟩; have PF := Lib.hid hp; have OF := Lib.hid ho; have B3 := Lib.hid (B2.out.trans (hb.mono B2.out.size)); clear hp ho hb)
        | (at_builtin; refine append_any _ rfl (.tmp 23) (.tmp 29) 31 rfl w.heap.size 22 j0 (.slice none 0 0) 1 24 Try.underlying31 hj0 hy0 hy1 hy2 rfl (by decide) u9 k _ rfl (by have := (P0.out.next B3.out).1; rw [HES.out] at this; exact this.alloc _) (some ⟨w3.heap.size, 0, none⟩) 1 1 [.slice (some ⟨gf, 0, none⟩) f.length cf] rfl rfl (fun h => by cases h) (fun ad e => by injection e with e; subst e; exact World.news_of_block (cs := #[.slice (some ⟨gf, 0, none⟩) f.length cf]) (t := 22) (fr := (0, 0)) (heap_alloc_new w3 _)) (by simp [Value.oneCell']) (by unfold maxLen; omega) (by omega) (by have := B3.out.size; simp; omega) ?_; intro v4 w4 hown4 hgrow4; have O4 := Lib.hid hown4; have G4 := Lib.hid hgrow4; clear hown4 hgrow4))
      have hP4 : Polys w.heap.size v4 (es ++ [⟨some ⟨gf, 0, none⟩, cf, f⟩]) w4 := by
        refine Polys.push (P0.out.next B3.out) (e := ⟨some ⟨gf, 0, none⟩, cf, f⟩) ⟨own_base OF.out (Nat.le_trans hsz B2.out.size), PF.out⟩ ((Below.refl _ _).alloc (Nat.le_refl _) _) G4.out ?_
        rw [HES.out]; exact O4.out
      have hB4 : Below w.heap.size w w4 := (((B0.out.trans (B3.out.mono hsz)).alloc (by have := B3.out.size; omega) _)).grown G4.out (by have := B3.out.size; simp; omega) (fun j hj => (P0.out.1.lt j hj).1)
      have HP4 := Lib.hid hP4
      have HB4 := Lib.hid hB4
      clear hP4 hB4
      go_wp2
      go_roundw
      case rel => exact ⟨k + 1, _, by omega, by rw [List.length_append, HES.out]; rfl, by go_num, HP4.out, HB4.out⟩
      case measure => simp [intOf]; omega
    · have bk : decide ((k : Int) < (n1 : Int)) = false := by rw [decide_eq_false_iff_not]; omega
      have BV := Lib.hid B0.out
      obtain ⟨wv, rfl⟩ : ∃ x, x = wr := ⟨wr, rfl⟩
      have PV := Lib.hid P0.out
      have HFV := Lib.hid (has_next HF.out (BV.out))
      have EV := Lib.hid HES.out
      clear P0 B0 HES
      obtain ⟨es1, hes1⟩ : ∃ x, x = es := ⟨_, rfl⟩
      rw [← hes1] at PV EV
      clear hes1
      obtain ⟨k1, hk1⟩ : ∃ x : Nat, x = k := ⟨_, rfl⟩
      rw [← hk1] at EV hk hlt bk ⊢
      clear hk1
      have bk300 : decide (300 < (ns.length : Int)) = false := by rw [decide_eq_false_iff_not]; omega
      go_wp2_with (go_at_call 33; refine (low_as HN1.out _ (by omega) (by omega)).mono ?_; rintro e w' ⟨rfl, rfl⟩)
      go_loopw [10, 12] (fun v i wr => ∃ (k : Nat) (es : List Ent), k ≤ n2 ∧ es.length = k ∧ i = .int .i64 k ∧ Polys wv.heap.size v es wr ∧ Below wv.heap.size wv wr) (fun _ i _ => n2 - (intOf i).toNat)
      case atStart => exact ⟨0, [], by omega, rfl, rfl, ⟨World.ownsRow_nil _ _ _ _, fun e he => by cases he⟩, Below.refl _ _⟩
      case round =>
        obtain ⟨k, es, hk, hes, rfl, hP, hB⟩ := hrel
        have P0 := Lib.hid hP
        have B0 := Lib.hid hB
        have HES := Lib.hid hes
        clear hP hB hes
        by_cases hlt : k < n2
        · have bk : decide ((k : Int) < (n2 : Int)) = true := by rw [decide_eq_true_iff]; omega
          have hsz : wv.heap.size ≤ wr.heap.size := B0.out.size
          have HNS := Lib.hid (HFV.out.below B0.out)
          go_wp2_with (first
            | (go_at_call 33; refine (low_as HN2.out _ (by omega) (by omega)).mono ?_; rintro e w' ⟨rfl, rfl⟩)
            | (at_builtin; refine append_any _ rfl (.tmp 40) (.tmp 41) 22 rfl wr.heap.size 3 i0 (.int .i64 0) 1 8 Try.underlying22 hi0 hz0 hz1 hz2 rfl (by decide) _ 1 _ rfl (World.ownsRow_lit wr #[.int .i64 (7 * (k : Int))] 1 (Nat.le_refl _) (by unfold maxLen; omega) rfl) A ns.length c (ints ns) rfl (by rw [ints_length]; omega) HA.out (by intro ad e j u hu; exact ((Below.refl wr.heap.size wr).alloc (Nat.le_refl _) _).cell (by rw [add_block]; exact (has_block HNS.out hu e hsz)) |>.trans (has_cell HNS.out hu e)) (ints_one ns) (by unfold maxLen; omega) (by omega) (by simp) ?_; intro v1 w2 hown1 hgrow1; obtain ⟨g1, c1, rfl, hg1⟩ := own_form hown1 (by omega); have O2 := Lib.hid hown1; have B2 := Lib.hid (((Below.refl wr.heap.size wr).alloc (Nat.le_refl _) _).grown hgrow1 (by simp) (fun k hk => by cases hk; exact Nat.le_refl _)); clear hown1 hgrow1)
            | (go_at_call 32; refine (lowp_len _ _ ((7 * (k : Int)) :: ns) _ w2 (by simp; omega) (own_has (l := (7 * (k : Int)) :: ns) O2.out) (by simp; omega)).mono ?_; rintro e w3 ⟨f, hp, gf, cf, rfl, ho, hb⟩; have PF := Lib.hid hp; have OF := Lib.hid ho; have B3 := Lib.hid (B2.out.trans (hb.mono B2.out.size)); clear hp ho hb)
            | (at_builtin; refine append_any _ rfl (.tmp 37) (.tmp 44) 31 rfl wv.heap.size 22 j0 (.slice none 0 0) 1 24 Try.underlying31 hj0 hy0 hy1 hy2 rfl (by decide) u10 k _ rfl (by have := (P0.out.next B3.out).1; rw [HES.out] at this; exact this.alloc _) (some ⟨w3.heap.size, 0, none⟩) 1 1 [.slice (some ⟨gf, 0, none⟩) f.length cf] rfl rfl (fun h => by cases h) (fun ad e => by injection e with e; subst e; exact World.news_of_block (cs := #[.slice (some ⟨gf, 0, none⟩) f.length cf]) (t := 22) (fr := (0, 0)) (heap_alloc_new w3 _)) (by simp [Value.oneCell']) (by unfold maxLen; omega) (by omega) (by have := B3.out.size; simp; omega) ?_; intro v4 w4 hown4 hgrow4; have O4 := Lib.hid hown4; have G4 := Lib.hid hgrow4; clear hown4 hgrow4))
          have hP4 : Polys wv.heap.size v4 (es ++ [⟨some ⟨gf, 0, none⟩, cf, f⟩]) w4 := by
            refine Polys.push (P0.out.next B3.out) (e := ⟨some ⟨gf, 0, none⟩, cf, f⟩) ⟨own_base OF.out (Nat.le_trans hsz B2.out.size), PF.out⟩ ((Below.refl _ _).alloc (Nat.le_refl _) _) G4.out ?_
            rw [HES.out]; exact O4.out
          have hB4 : Below wv.heap.size wv w4 := (((B0.out.trans (B3.out.mono hsz)).alloc (by have := B3.out.size; omega) _)).grown G4.out (by have := B3.out.size; simp; omega) (fun j hj => (P0.out.1.lt j hj).1)
          have HP4 := Lib.hid hP4
          have HB4 := Lib.hid hB4
          clear hP4 hB4
          go_wp2
          go_roundw
          case rel => exact ⟨k + 1, _, by omega, by rw [List.length_append, HES.out]; rfl, by go_num, HP4.out, HB4.out⟩
          case measure => simp [intOf]; omega
        · have bk : decide ((k : Int) < (n2 : Int)) = false := by rw [decide_eq_false_iff_not]; omega
          obtain ⟨A1, c1, hu9⟩ := own_shape PV.out.1
          obtain ⟨A2, c2, hu10⟩ := own_shape P0.out.1
          subst hu9
          subst hu10
          have hB1 : Below w.heap.size w wr := BV.out.trans (B0.out.mono BV.out.size)
          have hE1 : HasL wr wr.heap.size A1 es1 := (PV.out.next B0.out).has
          have hP1 : ∀ i (h : i < es1.length), es1[i].l.length ≤ 300 := fun i h => by rw [(PV.out.2 _ (List.getElem_mem h)).2.1]; omega
          have hP2 : ∀ i (h : i < es.length), es[i].l.length ≤ 300 := fun i h => by rw [(P0.out.2 _ (List.getElem_mem h)).2.1]; omega
          have hE2 : HasL wr wr.heap.size A2 es := P0.out.has
          have q1 : es1.length ≤ 300 := by have := EV.out; omega
          have q2 : es.length ≤ 300 := by have := HES.out; omega
          have HB1 := Lib.hid hB1
          have HE1 := Lib.hid hE1
          have HE2 := Lib.hid hE2
          have HP1 := Lib.hid hP1
          have HP2 := Lib.hid hP2
          clear hB1 hE1 hE2 hP1 hP2
          cases bad with
          | false =>
            go_wp2_with (first | (go_at_call 33; refine (low_as HN2.out _ (by omega) (by omega)).mono ?_; rintro e w' ⟨rfl, rfl⟩) | (go_at_call 34; fail))
            refine (pDot_res _ _ _ _ es1 es wr HE1.out HE2.out q1 q2 HP1.out HP2.out).mono ?_
            rintro e w5 ⟨A5, c5, rfl, ho, hb⟩
            have R5 := Lib.hid (own_read ho)
            have D1 := Lib.hid (HE1.out.next hb)
            have D2 := Lib.hid (HE2.out.next hb)
            have B5 := Lib.hid (HB1.out.trans (hb.mono HB1.out.size))
            clear ho hb
            go_wp2_with fail
            refine (refDot_res _ _ _ _ es1 es w5 D1.out D2.out q1 q2 HP1.out HP2.out).mono ?_
            rintro e w6 ⟨A6, c6, rfl, ho, hb⟩
            have R6 := Lib.hid (own_read ho)
            have S6 := Lib.hid (has_next R5.out hb)
            have D3 := Lib.hid (D2.out.next hb)
            have B6 := Lib.hid (B5.out.trans (hb.mono B5.out.size))
            clear ho hb
            go_wp2_with fail
            refine (same_true _ _ _ _ w6.heap.size (dotL (nums es1) (nums es)) w6 (by have := dot_len (nums es1) (nums es); omega) S6.out R6.out).mono ?_
            rintro e w7 ⟨rfl, n7, rfl⟩
            go_wp2_with fail
            refine (pNorm_ln _ _ es _ _ rfl (D3.out.drewN _) q2 HP2.out).mono ?_
            rintro e w8 ⟨rfl, n8, rfl⟩
            go_wp2_with fail
            refine (refNorm_ln _ _ es _ _ rfl (D3.out.drewN _) q2 HP2.out).mono ?_
            rintro e w9 ⟨rfl, n9, rfl⟩
            go_wp2_with fail
            refine (awake_any _ (tab_d TB B6)).mono ?_
            rintro e w10 ⟨rfl, hb⟩
            have B8 := Lib.hid ((below_drewN B6.out _).trans (hb.mono (below_drewN B6.out _).size))
            clear hb
            go_wp2
            go_ret
            exact ⟨rfl, B8.out⟩
          | true =>
            by_cases h0 : 0 < es.length
            · have b0 : decide (0 < (es.length : Int)) = true := by rw [decide_eq_true_iff]; omega
              obtain ⟨g2, c2', hv2, hgb⟩ := own_form22 P0.out.1 h0
              injection hv2 with hv2 _ hv3
              subst hv2
              subst hv3
              have hcut := cut_first P0.out h0
              have hc00 := P0.out.1.cellAt 0 (by omega)
              rw [List.getElem?_map, List.getElem?_eq_getElem h0] at hc00
              have hc0 : wr.cell? ⟨g2, 0, none⟩ = some (.slice es[0].A es[0].l.length es[0].c) := hc00
              clear hc00
              have hf0 := P0.out.1.frozenAt 0
              have hm0 := P0.out.2 _ (List.getElem_mem h0)
              have hcap : 256 ≤ es[0].c := by
                have hl := hm0.2.1
                rcases hm0.1.2 with ⟨_, h9⟩ | ⟨_, cc, _, hv, _, _, hnc, _⟩
                · omega
                · injection hv with _ _ hv
                  omega
              have hl256 : es[0].l.length = 256 := hm0.2.1
              obtain ⟨ga, hga⟩ : ∃ ga : Nat, es[0].A = some ⟨ga, 0, none⟩ := by
                rcases hm0.1.2 with ⟨_, h9⟩ | ⟨ga, cc, _, hv, _⟩
                · omega
                · injection hv with hv _ _
                  exact ⟨ga, hv⟩
              have X1 := Lib.hid (HasL.mono (B' := (wr.setCell ⟨g2, 0, none⟩ (.slice es[0].A 9 es[0].c)).heap.size) (PV.out.has.below (B0.out.setCell (p := ⟨g2, 0, none⟩) hgb (.slice es[0].A 9 es[0].c))) (by have := B0.out.size; simpa [World.setCell] using this))
              have X2 := Lib.hid hcut
              have X4 := Lib.hid (HB1.out.setCell (p := ⟨g2, 0, none⟩) (Nat.le_trans BV.out.size hgb) (.slice es[0].A 9 es[0].c))
              have q3 : (⟨es[0].A, es[0].c, es[0].l.take 9⟩ :: es.tail : List Ent).length ≤ 300 := by rw [List.length_cons, List.length_tail]; omega
              have X3 : Hid (∀ i (h : i < (⟨es[0].A, es[0].c, es[0].l.take 9⟩ :: es.tail : List Ent).length), (⟨es[0].A, es[0].c, es[0].l.take 9⟩ :: es.tail : List Ent)[i].l.length ≤ 300) := by
                intro i h
                rcases i with _ | i
                · show (es[0].l.take 9).length ≤ 300
                  rw [List.length_take]; omega
                · have : (⟨es[0].A, es[0].c, es[0].l.take 9⟩ :: es.tail : List Ent)[i + 1] = es[i + 1]'(by rw [List.length_cons, List.length_tail] at h; omega) := by simp
                  rw [this]
                  exact HP2.out _ _
              have hlen : (⟨es[0].A, es[0].c, es[0].l.take 9⟩ :: es.tail : List Ent).length = es.length := by rw [List.length_cons, List.length_tail]; omega
              obtain ⟨Ae, hAe⟩ : ∃ x, x = es[0].A := ⟨_, rfl⟩
              obtain ⟨ce, hce⟩ : ∃ x, x = es[0].c := ⟨_, rfl⟩
              obtain ⟨le, hle⟩ : ∃ x, x = es[0].l := ⟨_, rfl⟩
              rw [← hAe, ← hce, ← hle] at hc0
              rw [← hAe] at hga
              rw [← hce] at hcap
              rw [← hle] at hl256
              obtain ⟨ES2, hES⟩ : ∃ x, x = (⟨es[0].A, es[0].c, es[0].l.take 9⟩ :: es.tail : List Ent) := ⟨_, rfl⟩
              rw [← hES] at X2 X3 q3 hlen
              rw [← hAe, ← hce] at X1 X2 X4
              have l9 : 9 ≤ le.length := by omega
              have HLEN := Lib.hid hlen
              subst hga
              clear hcut hm0 hAe hce hle hES hl256 hlen hgb
              go_wp2_with (first | (go_at_call 33; refine (low_as HN2.out _ (by omega) (by omega)).mono ?_; rintro e w' ⟨rfl, rfl⟩) | (go_at_call 34; fail))
              refine (pDot_ln _ _ _ _ es1 ES2 _ _ HLEN.out X1.out X2.out q1 q3 HP1.out X3.out).mono ?_
              rintro e w5 ⟨A5, c5, rfl, ho, hb⟩
              have R5 := Lib.hid (own_read ho)
              have D1 := Lib.hid (X1.out.next hb)
              have D2 := Lib.hid (X2.out.next hb)
              have B5 := Lib.hid (X4.out.trans (hb.mono X4.out.size))
              clear ho hb
              go_wp2_with fail
              refine (refDot_ln _ _ _ _ es1 ES2 _ w5 HLEN.out D1.out D2.out q1 q3 HP1.out X3.out).mono ?_
              rintro e w6 ⟨A6, c6, rfl, ho, hb⟩
              have R6 := Lib.hid (own_read ho)
              have S6 := Lib.hid (has_next R5.out hb)
              have D3 := Lib.hid (D2.out.next hb)
              have B6 := Lib.hid (B5.out.trans (hb.mono B5.out.size))
              clear ho hb
              go_wp2_with fail
              refine (same_true _ _ _ _ w6.heap.size (dotL (nums es1) (nums ES2)) w6 (by have := dot_len (nums es1) (nums ES2); omega) S6.out R6.out).mono ?_
              rintro e w7 ⟨rfl, n7, rfl⟩
              go_wp2_with fail
              refine (pNorm_ln _ _ ES2 _ _ HLEN.out (D3.out.drewN _) q3 X3.out).mono ?_
              rintro e w8 ⟨rfl, n8, rfl⟩
              go_wp2_with fail
              refine (refNorm_ln _ _ ES2 _ _ HLEN.out (D3.out.drewN _) q3 X3.out).mono ?_
              rintro e w9 ⟨rfl, n9, rfl⟩
              go_wp2_with fail
              refine (awake_any _ (tab_d TB B6)).mono ?_
              rintro e w10 ⟨rfl, hb⟩
              have B8 := Lib.hid ((below_drewN B6.out _).trans (hb.mono (below_drewN B6.out _).size))
              clear hb
              go_wp2
              go_ret
              exact ⟨rfl, B8.out⟩
            · have b0 : decide (0 < (es.length : Int)) = false := by rw [decide_eq_false_iff_not]; omega
              go_wp2_with (first | (go_at_call 33; refine (low_as HN2.out _ (by omega) (by omega)).mono ?_; rintro e w' ⟨rfl, rfl⟩) | (go_at_call 34; fail))
              refine (pDot_res _ _ _ _ es1 es wr HE1.out HE2.out q1 q2 HP1.out HP2.out).mono ?_
              rintro e w5 ⟨A5, c5, rfl, ho, hb⟩
              have R5 := Lib.hid (own_read ho)
              have D1 := Lib.hid (HE1.out.next hb)
              have D2 := Lib.hid (HE2.out.next hb)
              have B5 := Lib.hid (HB1.out.trans (hb.mono HB1.out.size))
              clear ho hb
              go_wp2_with fail
              refine (refDot_res _ _ _ _ es1 es w5 D1.out D2.out q1 q2 HP1.out HP2.out).mono ?_
              rintro e w6 ⟨A6, c6, rfl, ho, hb⟩
              have R6 := Lib.hid (own_read ho)
              have S6 := Lib.hid (has_next R5.out hb)
              have D3 := Lib.hid (D2.out.next hb)
              have B6 := Lib.hid (B5.out.trans (hb.mono B5.out.size))
              clear ho hb
              go_wp2_with fail
              refine (same_true _ _ _ _ w6.heap.size (dotL (nums es1) (nums es)) w6 (by have := dot_len (nums es1) (nums es); omega) S6.out R6.out).mono ?_
              rintro e w7 ⟨rfl, n7, rfl⟩
              go_wp2_with fail
              refine (pNorm_ln _ _ es _ _ rfl (D3.out.drewN _) q2 HP2.out).mono ?_
              rintro e w8 ⟨rfl, n8, rfl⟩
              go_wp2_with fail
              refine (refNorm_ln _ _ es _ _ rfl (D3.out.drewN _) q2 HP2.out).mono ?_
              rintro e w9 ⟨rfl, n9, rfl⟩
              go_wp2_with fail
              refine (awake_any _ (tab_d TB B6)).mono ?_
              rintro e w10 ⟨rfl, hb⟩
              have B8 := Lib.hid ((below_drewN B6.out _).trans (hb.mono (below_drewN B6.out _).size))
              clear hb
              go_wp2
              go_ret
              exact ⟨rfl, B8.out⟩
end Go.Proofs.Ytneopnlklhcopaa
