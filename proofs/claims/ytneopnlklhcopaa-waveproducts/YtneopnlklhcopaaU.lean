/- Contract: the document's own sums of products. -/
import Derived.Test.YtneopnlklhcopaaQ
import Derived.WalkLawsBesides
import Derived.Test.YtneopnlklhcopaaPolyJ
namespace Go.Proofs.Ytneopnlklhcopaa
open Go.RowKit Slices Go.Proofs.Ytneopnlklhcopaa.Ring

set_option maxRecDepth 100000 in
set_option maxHeartbeats 400000 in
theorem refDot_len (A A' : Option Addr) (c c' n m : Nat) (w : World) (hn : n ≤ 300) (hm : m ≤ 300) (h : n ≠ m ∨ n = 0) :
    Calls Try.prog 35 #[.slice A n c, .slice A' m c'] w (NilPost w) := by
  by_cases h1 : n = m
  · have h0 : n = 0 := by omega
    subst h1
    subst h0
    go_enter Try.func35, Try.ntmps35
    go_wp2
    go_ret
    exact ⟨rfl, Below.refl _ _⟩
  · have t : ((n : Int) != m) = true := by rw [bne_iff_ne]; omega
    clear h h1
    go_enter Try.func35, Try.ntmps35
    go_wp2
    go_ret
    exact ⟨rfl, Below.refl _ _⟩

/-- the first k products are added -/
def DotRel (w : World) (ps qs : List (List Int)) (k : Nat) (v : Value) (wr : World) : Prop :=
  ∃ A c, v = .slice A (toL (dotV ps qs k)).length c ∧ Mine w.heap.size A c (toL (dotV ps qs k)) wr ∧ Below w.heap.size w wr

set_option maxRecDepth 100000 in
set_option maxHeartbeats 4000000 in
theorem refDot_yes (A A' : Option Addr) (c c' : Nat) (es ds : List Ent) (w : World) (h : HasL w w.heap.size A es) (h' : HasL w w.heap.size A' ds) (hl : es.length = ds.length) (h0 : 0 < es.length) (hn : es.length ≤ 300)
    (hp : AllPoly (nums es)) (hq : AllPoly (nums ds)) :
    Calls Try.prog 35 #[.slice A es.length c, .slice A' ds.length c'] w (Res w (toL (dotV (nums es) (nums ds) es.length))) := by
  obtain ⟨i0, hi0, hz0, hz1, hz2⟩ := info_parts Try.info3
  obtain ⟨N, hN⟩ : ∃ N : Nat, N = 256 := ⟨_, rfl⟩
  have n0 : N ≤ 256 := by omega
  have n1 : 256 ≤ N := by omega
  have HN := Lib.hid hN
  have H := Lib.hid h
  have H' := Lib.hid h'
  have HP := Lib.hid hp
  have HQ := Lib.hid hq
  have HL := Lib.hid hl
  have t1 : ((es.length : Int) != ds.length) = false := by rw [bne_eq_false_iff_eq]; omega
  have t2 : ((es.length : Int) == 0) = false := by rw [beq_eq_false_iff_ne]; omega
  have m0 : ds.length ≤ es.length := by omega
  have m1 : es.length ≤ ds.length := by omega
  clear hN h h' hp hq hl
  have hnil : ∀ (w : World) (a : Option Addr) (n c : Nat), (binOp .eql 22 (.slice a n c) (.slice none 0 0)).run Try.prog w = .ok (.bool a.isNone) w := fun w a n c => Lib.run_eql_slice_nil w 22 3 a n c 0 0 Try.underlying22
  go_enter Try.func35, Try.ntmps35
  go_wp2_with (at_make; refine wpList_make_full _ rfl _ _ 22 rfl w.heap.size 3 i0 (.int .i64 0) 1 Try.underlying22 hi0 hz0 hz1 _ _ _ _ N rfl rfl (by omega) (by omega) (by rw [hz2]; omega) (by unfold maxLen; omega) (Nat.le_refl _) ?_; intro w1 hown hgrow; rw [made_ints] at hown; have HO := Lib.hid hown; clear hown; have HG := Lib.hid hgrow; clear hgrow)
  have hst : DotRel w (nums es) (nums ds) 0 (.slice (some ⟨w.heap.size, 0, none⟩) N N) w1 := by
    have hb : Below w.heap.size w w1 := (Below.refl _ _).grown HG.out (Nat.le_refl _) (by simp)
    have e := HN.out
    have HOO := HO.out
    rw [e] at HOO ⊢
    have el : (toL (dotV (nums es) (nums ds) 0)).length = 256 := toL_length _
    have ez : zeroL = toL (dotV (nums es) (nums ds) 0) := zero_toL
    refine ⟨some ⟨w.heap.size, 0, none⟩, 256, by rw [el], ⟨?_, hb.size⟩, hb⟩
    rw [el, ← ez]
    exact HOO
  have HST := Lib.hid hst
  clear hst HO HG
  go_loopw [5, 6] (fun v i wr => ∃ k : Nat, k ≤ es.length ∧ i = .int .i64 k ∧ DotRel w (nums es) (nums ds) k v wr) (fun _ i _ => es.length - (intOf i).toNat)
  case atStart => exact ⟨0, by omega, rfl, HST.out⟩
  case round =>
    obtain ⟨k, hk, rfl, A5, c5, rfl, hm5, hb5⟩ := hrel
    have M5 := Lib.hid hm5
    have B5 := Lib.hid hb5
    clear hm5 hb5 HST
    by_cases hlt : k < es.length
    · have hltd : k < ds.length := by omega
      obtain ⟨⟨a, e, hab, ha⟩, hfe⟩ := (H.out.below B5.out) k hlt
      subst e
      obtain ⟨⟨a', e, hab', ha'⟩, hfd⟩ := (H'.out.below B5.out) k hltd
      subst e
      have pe : IsPoly es[k].l := by have := HP.out k (by rw [nums_len]; exact hlt); rwa [nums_at es hlt] at this
      have pd : IsPoly ds[k].l := by have := HQ.out k (by rw [nums_len]; exact hltd); rwa [nums_at ds hltd] at this
      have hstep : dotV (nums es) (nums ds) (k + 1) = vAdd (dotV (nums es) (nums ds) k) (vTimes (vec es[k].l) (vec ds[k].l)) := by
        show vAdd _ (vTimes (vec ((nums es).getD k [])) (vec ((nums ds).getD k []))) = _
        rw [nums_at es hlt, nums_at ds hltd]
      have FE := Lib.hid (hfe.mono B5.out.size)
      have FD := Lib.hid (hfd.mono B5.out.size)
      have PE := Lib.hid pe
      have PD := Lib.hid pd
      have ST := Lib.hid hstep
      clear hfe hfd pe pd hstep
      generalize es[k].l = le at ha FE PE ST
      generalize es[k].A = Ae at ha FE
      generalize es[k].c = ce at ha
      generalize ds[k].l = ld at ha' FD PD ST
      generalize ds[k].A = Ad at ha' FD
      generalize ds[k].c = cd at ha'
      go_wp2_with fail
      refine wp_region_still_tail 8 (by kernel_rfl) (by kernel_rfl) ?_
      change wpStill _ _ (World.drew _) (fun a' => wpList _ _ _ _ a' (World.drew _)) _ _
      generalize hW : World.drew wr = w2
      have ca : w2.cell? (a.add k) = some (.slice Ae le.length ce) := by rw [← hW]; exact ha
      have cb : w2.cell? (a'.add k) = some (.slice Ad ld.length cd) := by rw [← hW]; exact ha'
      have FE2 : Hid (Has w2 w2.heap.size Ae le) := by rw [← hW]; exact FE.out
      have FD2 : Hid (Has w2 w2.heap.size Ad ld) := by rw [← hW]; exact FD.out
      have M52 : Hid (Mine w.heap.size A5 c5 (toL (dotV (nums es) (nums ds) k)) w2) := by rw [← hW]; exact M5.out
      have B52 : Hid (Below w.heap.size w w2) := by rw [← hW]; exact B5.out.drew
      clear hW ha ha' FE FD M5 B5
      simp only [List.take_succ_cons, List.take_zero, List.drop_succ_cons, List.drop_zero]
      repeat still_step
      refine wpStill_nil ?_
      go_wp2_with fail
      refine (refTimes_yes _ _ _ _ le ld w2 FE2.out FD2.out PE.out PD.out).mono ?_
      rintro e w3 ⟨g3, c3, rfl, ho, hb⟩
      have T3 := Lib.hid (own_read ho)
      have M3 := Lib.hid (M52.out.next hb)
      have B3 := Lib.hid (B52.out.trans (hb.mono B52.out.size))
      clear ho hb
      go_wp2_with fail
      refine (refAdd_yes _ _ _ _ (toL (dotV (nums es) (nums ds) k)) (toL (vTimes (vec le) (vec ld))) w3 M3.out.read T3.out (toL_poly _) (toL_poly _)).mono ?_
      rw [add_toL, ← ST.out]
      rintro e w4 ⟨g4, c4, rfl, ho, hb⟩
      have R4 : Hid (DotRel w (nums es) (nums ds) (k + 1) (.slice (some ⟨g4, 0, none⟩) (toL (dotV (nums es) (nums ds) (k + 1))).length c4) w4) := by
        have hb4 : Below w.heap.size w w4 := B3.out.trans (hb.mono B3.out.size)
        refine ⟨_, c4, rfl, ⟨⟨ho.1, ?_⟩, hb4.size⟩, hb4⟩
        rcases ho.2 with hx | ⟨g', cap', cur, hv, hB, hr⟩
        · exact .inl hx
        · exact .inr ⟨g', cap', cur, hv, Nat.le_trans B3.out.size hB, hr⟩
      clear ho hb
      go_wp2
      go_roundw
      case rel => exact ⟨k + 1, by omega, by go_num, R4.out⟩
      case measure => simp [intOf]; omega
    · go_wp2
      go_ret
      have e : k = es.length := by omega
      subst e
      exact ⟨A5, c5, rfl, M5.out.1, B5.out⟩
end Go.Proofs.Ytneopnlklhcopaa
