/- Contract: the document's own sums of products, of what is no poly too. -/
import Derived.Test.YtneopnlklhcopaaU
namespace Go.Proofs.Ytneopnlklhcopaa
open Go.RowKit Slices Go.Proofs.Ytneopnlklhcopaa.Ring

set_option maxRecDepth 100000 in
set_option maxHeartbeats 4000000 in
theorem refDot_bad (A A' : Option Addr) (c c' : Nat) (es ds : List Ent) (w : World) (h : HasL w w.heap.size A es) (h' : HasL w w.heap.size A' ds) (hl : es.length = ds.length) (h0 : 0 < es.length) (hn : es.length ≤ 300)
    (j : Nat) (hj : j < es.length) (hp : ∀ i (h : i < es.length) (h' : i < ds.length), i < j → IsPoly es[i].l ∧ IsPoly ds[i].l) (hq : ∀ (h : j < es.length) (h' : j < ds.length), ¬ (IsPoly es[j].l ∧ IsPoly ds[j].l))
    (hle : ∀ i (h : i < es.length), es[i].l.length ≤ 300) (hld : ∀ i (h : i < ds.length), ds[i].l.length ≤ 300) :
    Calls Try.prog 35 #[.slice A es.length c, .slice A' ds.length c'] w (NilPost w) := by
  obtain ⟨i0, hi0, hz0, hz1, hz2⟩ := info_parts Try.info3
  obtain ⟨N, hN⟩ : ∃ N : Nat, N = 256 := ⟨_, rfl⟩
  have n0 : N ≤ 256 := by omega
  have n1 : 256 ≤ N := by omega
  have HN := Lib.hid hN
  have H := Lib.hid h
  have H' := Lib.hid h'
  have HP := Lib.hid hp
  have HQ := Lib.hid hq
  have HL := Lib.hid hl
  have HLE := Lib.hid hle
  have HLD := Lib.hid hld
  clear hle hld
  have t1 : ((es.length : Int) != ds.length) = false := by rw [bne_eq_false_iff_eq]; omega
  have t2 : ((es.length : Int) == 0) = false := by rw [beq_eq_false_iff_ne]; omega
  have m0 : ds.length ≤ es.length := by omega
  have m1 : es.length ≤ ds.length := by omega
  clear hN h h' hp hq hl
  have hnil : ∀ (w : World) (a : Option Addr) (n c : Nat), (binOp .eql 22 (.slice a n c) (.slice none 0 0)).run Try.prog w = .ok (.bool a.isNone) w := fun w a n c => Lib.run_eql_slice_nil w 22 3 a n c 0 0 Try.underlying22
  go_enter Try.func35, Try.ntmps35
  go_wp2_with (at_make; refine wpList_make_full _ rfl _ _ 22 rfl w.heap.size 3 i0 (.int .i64 0) 1 Try.underlying22 hi0 hz0 hz1 _ _ _ _ N rfl rfl (by omega) (by omega) (by rw [hz2]; omega) (by unfold maxLen; omega) (Nat.le_refl _) ?_; intro w1 hown hgrow; rw [made_ints] at hown; have HO := Lib.hid hown; clear hown; have HG := Lib.hid hgrow; clear hgrow)
  have hst : DotRel w (nums es) (nums ds) 0 (.slice (some ⟨w.heap.size, 0, none⟩) N N) w1 := by
    have hb : Below w.heap.size w w1 := (Below.refl _ _).grown HG.out (Nat.le_refl _) (by simp)
    have e := HN.out
    have HOO := HO.out
    rw [e] at HOO ⊢
    have el : (toL (dotV (nums es) (nums ds) 0)).length = 256 := toL_length _
    have ez : zeroL = toL (dotV (nums es) (nums ds) 0) := zero_toL
    refine ⟨some ⟨w.heap.size, 0, none⟩, 256, by rw [el], ⟨?_, hb.size⟩, hb⟩
    rw [el, ← ez]
    exact HOO
  have HST := Lib.hid hst
  clear hst HO HG
  go_loopw [5, 6] (fun v i wr => ∃ k : Nat, k ≤ j ∧ i = .int .i64 k ∧ DotRel w (nums es) (nums ds) k v wr) (fun _ i _ => es.length - (intOf i).toNat)
  case atStart => exact ⟨0, Nat.zero_le _, rfl, HST.out⟩
  case round =>
    obtain ⟨k, hk, rfl, A5, c5, rfl, hm5, hb5⟩ := hrel
    have M5 := Lib.hid hm5
    have B5 := Lib.hid hb5
    clear hm5 hb5 HST
    have hlt : k < es.length := by omega
    by_cases hkj : k < j
    · have hltd : k < ds.length := by omega
      obtain ⟨⟨a, e, hab, ha⟩, hfe⟩ := (H.out.below B5.out) k hlt
      subst e
      obtain ⟨⟨a', e, hab', ha'⟩, hfd⟩ := (H'.out.below B5.out) k hltd
      subst e
      have pe : IsPoly es[k].l := (HP.out k hlt hltd hkj).1
      have pd : IsPoly ds[k].l := (HP.out k hlt hltd hkj).2
      have hstep : dotV (nums es) (nums ds) (k + 1) = vAdd (dotV (nums es) (nums ds) k) (vTimes (vec es[k].l) (vec ds[k].l)) := by
        show vAdd _ (vTimes (vec ((nums es).getD k [])) (vec ((nums ds).getD k []))) = _
        rw [nums_at es hlt, nums_at ds hltd]
      have FE := Lib.hid (hfe.mono B5.out.size)
      have FD := Lib.hid (hfd.mono B5.out.size)
      have PE := Lib.hid pe
      have PD := Lib.hid pd
      have ST := Lib.hid hstep
      clear hfe hfd pe pd hstep
      generalize es[k].l = le at ha FE PE ST
      generalize es[k].A = Ae at ha FE
      generalize es[k].c = ce at ha
      generalize ds[k].l = ld at ha' FD PD ST
      generalize ds[k].A = Ad at ha' FD
      generalize ds[k].c = cd at ha'
      go_wp2_with fail
      refine wp_region_still_tail 8 (by kernel_rfl) (by kernel_rfl) ?_
      change wpStill _ _ (World.drew _) (fun a' => wpList _ _ _ _ a' (World.drew _)) _ _
      generalize hW : World.drew wr = w2
      have ca : w2.cell? (a.add k) = some (.slice Ae le.length ce) := by rw [← hW]; exact ha
      have cb : w2.cell? (a'.add k) = some (.slice Ad ld.length cd) := by rw [← hW]; exact ha'
      have FE2 : Hid (Has w2 w2.heap.size Ae le) := by rw [← hW]; exact FE.out
      have FD2 : Hid (Has w2 w2.heap.size Ad ld) := by rw [← hW]; exact FD.out
      have M52 : Hid (Mine w.heap.size A5 c5 (toL (dotV (nums es) (nums ds) k)) w2) := by rw [← hW]; exact M5.out
      have B52 : Hid (Below w.heap.size w w2) := by rw [← hW]; exact B5.out.drew
      clear hW ha ha' FE FD M5 B5
      simp only [List.take_succ_cons, List.take_zero, List.drop_succ_cons, List.drop_zero]
      repeat still_step
      refine wpStill_nil ?_
      go_wp2_with fail
      refine (refTimes_yes _ _ _ _ le ld w2 FE2.out FD2.out PE.out PD.out).mono ?_
      rintro e w3 ⟨g3, c3, rfl, ho, hb⟩
      have T3 := Lib.hid (own_read ho)
      have M3 := Lib.hid (M52.out.next hb)
      have B3 := Lib.hid (B52.out.trans (hb.mono B52.out.size))
      clear ho hb
      go_wp2_with fail
      refine (refAdd_yes _ _ _ _ (toL (dotV (nums es) (nums ds) k)) (toL (vTimes (vec le) (vec ld))) w3 M3.out.read T3.out (toL_poly _) (toL_poly _)).mono ?_
      rw [add_toL, ← ST.out]
      rintro e w4 ⟨g4, c4, rfl, ho, hb⟩
      have R4 : Hid (DotRel w (nums es) (nums ds) (k + 1) (.slice (some ⟨g4, 0, none⟩) (toL (dotV (nums es) (nums ds) (k + 1))).length c4) w4) := by
        have hb4 : Below w.heap.size w w4 := B3.out.trans (hb.mono B3.out.size)
        refine ⟨_, c4, rfl, ⟨⟨ho.1, ?_⟩, hb4.size⟩, hb4⟩
        rcases ho.2 with hx | ⟨g', cap', cur, hv, hB, hr⟩
        · exact .inl hx
        · exact .inr ⟨g', cap', cur, hv, Nat.le_trans B3.out.size hB, hr⟩
      clear ho hb
      go_wp2
      go_roundw
      case rel => exact ⟨k + 1, by omega, by go_num, R4.out⟩
      case measure => simp [intOf]; omega
    · have hltd : k < ds.length := by omega
      obtain ⟨⟨a, e, hab, ha⟩, hfe⟩ := (H.out.below B5.out) k hlt
      subst e
      obtain ⟨⟨a', e, hab', ha'⟩, hfd⟩ := (H'.out.below B5.out) k hltd
      subst e
      have npd : ¬ (IsPoly es[k].l ∧ IsPoly ds[k].l) := by
        have e : k = j := by omega
        subst e
        exact HQ.out hlt hltd
      have q1 := HLE.out k hlt
      have q2 := HLD.out k hltd
      have FE := Lib.hid (hfe.mono B5.out.size)
      have FD := Lib.hid (hfd.mono B5.out.size)
      have NP := Lib.hid npd
      clear hfe hfd npd
      generalize es[k].l = le at ha FE NP q1
      generalize es[k].A = Ae at ha FE
      generalize es[k].c = ce at ha
      generalize ds[k].l = ld at ha' FD NP q2
      generalize ds[k].A = Ad at ha' FD
      generalize ds[k].c = cd at ha'
      go_wp2_with fail
      refine wp_region_still_tail 8 (by kernel_rfl) (by kernel_rfl) ?_
      change wpStill _ _ (World.drew _) (fun a' => wpList _ _ _ _ a' (World.drew _)) _ _
      generalize hW : World.drew wr = w2
      have ca : w2.cell? (a.add k) = some (.slice Ae le.length ce) := by rw [← hW]; exact ha
      have cb : w2.cell? (a'.add k) = some (.slice Ad ld.length cd) := by rw [← hW]; exact ha'
      have FE2 : Hid (Has w2 w2.heap.size Ae le) := by rw [← hW]; exact FE.out
      have FD2 : Hid (Has w2 w2.heap.size Ad ld) := by rw [← hW]; exact FD.out
      have B52 : Hid (Below w.heap.size w w2) := by rw [← hW]; exact B5.out.drew
      clear hW ha ha' FE FD M5 B5
      simp only [List.take_succ_cons, List.take_zero, List.drop_succ_cons, List.drop_zero]
      repeat still_step
      refine wpStill_nil ?_
      go_wp2_with fail
      refine (refTimes_no _ _ _ _ le ld w2 FE2.out FD2.out (big q1) (big q2) NP.out).mono ?_
      rintro e w3 ⟨rfl, n3, rfl⟩
      go_wp2
      go_ret
      exact ⟨rfl, below_drewN B52.out _⟩

theorem refDot_res (A A' : Option Addr) (c c' : Nat) (es ds : List Ent) (w : World) (h : HasL w w.heap.size A es) (h' : HasL w w.heap.size A' ds) (hn : es.length ≤ 300) (hm : ds.length ≤ 300)
    (hle : ∀ i (h : i < es.length), es[i].l.length ≤ 300) (hld : ∀ i (h : i < ds.length), ds[i].l.length ≤ 300) :
    Calls Try.prog 35 #[.slice A es.length c, .slice A' ds.length c'] w (Res w (dotL (nums es) (nums ds))) := by
  have nil : ∀ {e w'}, NilPost w e w' → Res w [] e w' := fun h => ⟨none, 0, h.1, World.ownsRow_nil _ _ _ _, h.2⟩
  by_cases hd : (nums es).length = (nums ds).length ∧ 0 < (nums es).length ∧ AllPoly (nums es) ∧ AllPoly (nums ds)
  · rw [dot_yes hd]
    obtain ⟨d1, d2, d3, d4⟩ := hd
    rw [nums_len, nums_len] at d1
    rw [nums_len] at d2
    rw [nums_len]
    exact refDot_yes A A' c c' es ds w h h' d1 d2 hn d3 d4
  · rw [dot_no hd]
    by_cases hl : es.length = ds.length
    · by_cases h0 : es.length = 0
      · exact (refDot_len A A' c c' _ _ w hn hm (.inr h0)).mono fun _ _ h => nil h
      · have hex : ∃ j, j < es.length ∧ ∀ (g : j < es.length) (g' : j < ds.length), ¬ (IsPoly es[j].l ∧ IsPoly ds[j].l) := by
          apply Classical.byContradiction
          intro hne
          apply hd
          have all : ∀ k (g : k < es.length) (g' : k < ds.length), IsPoly es[k].l ∧ IsPoly ds[k].l := by
            intro k g g'
            apply Classical.byContradiction
            intro hk
            exact hne ⟨k, g, fun _ _ => hk⟩
          refine ⟨by rw [nums_len, nums_len]; exact hl, by rw [nums_len]; omega, fun k hk => ?_, fun k hk => ?_⟩
          · rw [nums_len] at hk
            rw [nums_at es hk]; exact (all k hk (by omega)).1
          · rw [nums_len] at hk
            rw [nums_at ds hk]; exact (all k (by omega) hk).2
        obtain ⟨j, hj, hmin⟩ : ∃ j, (j < es.length ∧ ∀ (g : j < es.length) (g' : j < ds.length), ¬ (IsPoly es[j].l ∧ IsPoly ds[j].l)) ∧ ∀ i, i < j → ¬ (i < es.length ∧ ∀ (g : i < es.length) (g' : i < ds.length), ¬ (IsPoly es[i].l ∧ IsPoly ds[i].l)) := by
          obtain ⟨j, hj⟩ := hex
          induction j using Nat.strongRecOn with
          | _ j ih =>
            by_cases hh : ∃ i, i < j ∧ (i < es.length ∧ ∀ (g : i < es.length) (g' : i < ds.length), ¬ (IsPoly es[i].l ∧ IsPoly ds[i].l))
            · obtain ⟨i, hi, hi2⟩ := hh
              exact ih i hi hi2
            · exact ⟨j, hj, fun i hi hc => hh ⟨i, hi, hc⟩⟩
        refine (refDot_bad A A' c c' es ds w h h' hl (by omega) hn j hj.1 ?_ hj.2 hle hld).mono fun _ _ h => nil h
        intro i g g' hij
        apply Classical.byContradiction
        intro hk
        exact hmin i hij ⟨g, fun _ _ => hk⟩
    · exact (refDot_len A A' c c' _ _ w hn hm (.inl hl)).mono fun _ _ h => nil h
end Go.Proofs.Ytneopnlklhcopaa
