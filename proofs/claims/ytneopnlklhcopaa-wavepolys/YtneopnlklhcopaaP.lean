/- The law WavePolys, walked. -/
import Derived.Test.YtneopnlklhcopaaO
namespace Go.Proofs.Ytneopnlklhcopaa
open Go.RowKit Slices Go.Proofs.Ytneopnlklhcopaa.Ring

set_option maxRecDepth 100000 in
set_option maxHeartbeats 8000000 in
theorem polys_small (A A' : Option Addr) (c c' : Nat) (ns ms : List Int) (w : World) (hf : Has w w.heap.size A ns) (hg : Has w w.heap.size A' ms) (h1 : ns.length ≤ 300) (h2 : ms.length ≤ 300) (TB : Hid (Tab w)) :
    Calls Try.prog 4 #[.slice A ns.length c, .slice A' ms.length c'] w fun e w' => e = .returned (.bool true) ∧ Below w.heap.size w w' := by
  have HNS := Lib.hid hf
  have HMS := Lib.hid hg
  clear hf hg
  go_enter Try.func4, Try.ntmps4
  go_wp2_with fail
  refine (lowp_any A c ns w HNS.out h1).mono ?_
  rintro e v1 ⟨f, hp, gf, cf, rfl, ho, hb⟩
  have HF1 := Lib.hid (own_read ho)
  have HM1 := Lib.hid (has_next HMS.out hb)
  have B1 := Lib.hid hb
  have f0 : f.length ≤ 300 := by rw [hp.1]; omega
  clear hp ho hb h1 HNS HMS
  go_wp2_with fail
  refine (lowp_any A' c' ms v1 HM1.out h2).mono ?_
  rintro e v2 ⟨g, hp, gg, cg, rfl, ho, hb⟩
  have HG := Lib.hid (own_read ho)
  have HF := Lib.hid (has_next HF1.out hb)
  have B2 := Lib.hid (B1.out.trans (hb.mono B1.out.size))
  have g0 : g.length ≤ 300 := by rw [hp.1]; omega
  clear hp ho hb h2 HF1 HM1 B1
  have h1 := f0
  have h2 := g0
  clear f0 g0
  go_wp2_with fail
  refine (lend_any (some ⟨gf, 0, none⟩) cf f v2 HF.out (fun h => by cases h) h1).mono ?_
  rintro e w1 ⟨gi, rfl, hL, hb⟩
  have E1 : Hid (Env v2 (some ⟨gf, 0, none⟩) (some ⟨gg, 0, none⟩) f g gi w1) := ⟨has_next HF.out hb, has_next HG.out hb, hL, hb⟩
  have Hgi : Hid (gi < w1.heap.size) := (lent_block hL).2
  clear hL hb
  go_wp2_with fail
  refine (pAdd_res (some ⟨gi, 0, none⟩) (some ⟨gg, 0, none⟩) (f.length + 3) cg f g w1 (lent_has E1.out.2.2.1) E1.out.2.1 h1 h2).mono ?_
  rintro e w2 ⟨Aa, ca, rfl, ho, hb⟩
  have E2 := Lib.hid (E1.out.next hb)
  have Ma2 := Lib.hid (Mine.of ho hb)
  have S2 : Hid (w1.heap.size ≤ w2.heap.size) := hb.size
  have La := Lib.hid Ma2.out.lies
  clear ho hb
  go_wp2_with fail
  refine (pSub_res (some ⟨gi, 0, none⟩) (some ⟨gg, 0, none⟩) (f.length + 3) cg f g w2 (lent_has E2.out.2.2.1) E2.out.2.1 h1 h2).mono ?_
  rintro e w3 ⟨Ab, cb, rfl, ho, hb⟩
  have E3 := Lib.hid (E2.out.next hb)
  have Ma3 := Lib.hid (Ma2.out.next hb)
  have Mb3 := Lib.hid (Mine.of ho hb)
  have S3 : Hid (w2.heap.size ≤ w3.heap.size) := hb.size
  have Lb := Lib.hid Mb3.out.lies
  clear ho hb
  clear E2 Ma2
  go_wp2_with fail
  refine (pOver_res (some ⟨gi, 0, none⟩) (f.length + 3) f w3 (lent_has E3.out.2.2.1) h1 (tab_b (tab_b TB B2) (Lib.hid E3.out.2.2.2))).mono ?_
  rintro e w4 ⟨Ac, cc, rfl, ho, hb⟩
  have E4 := Lib.hid (E3.out.next hb)
  have Ma4 := Lib.hid (Ma3.out.next hb)
  have Mb4 := Lib.hid (Mb3.out.next hb)
  have Mc4 := Lib.hid (Mine.of ho hb)
  have S4 : Hid (w3.heap.size ≤ w4.heap.size) := hb.size
  have Lc := Lib.hid Mc4.out.lies
  clear ho hb
  clear E3 Ma3 Mb3
  go_wp2_with fail
  refine (pBack_res (some ⟨gi, 0, none⟩) (f.length + 3) f w4 (lent_has E4.out.2.2.1) h1 (tab_b (tab_b TB B2) (Lib.hid E4.out.2.2.2))).mono ?_
  rintro e w5 ⟨Ad, cd, rfl, ho, hb⟩
  have E5 := Lib.hid (E4.out.next hb)
  have Ma5 := Lib.hid (Ma4.out.next hb)
  have Mb5 := Lib.hid (Mb4.out.next hb)
  have Mc5 := Lib.hid (Mc4.out.next hb)
  have Md5 := Lib.hid (Mine.of ho hb)
  have S5 : Hid (w4.heap.size ≤ w5.heap.size) := hb.size
  have Ld := Lib.hid Md5.out.lies
  clear ho hb
  clear E4 Ma4 Mb4 Mc4
  go_wp2_with fail
  refine (pTimes_res (some ⟨gi, 0, none⟩) (some ⟨gg, 0, none⟩) (f.length + 3) cg f g w5 (lent_has E5.out.2.2.1) E5.out.2.1 h1 h2).mono ?_
  rintro e w6 ⟨Ae, ce, rfl, ho, hb⟩
  have E6 := Lib.hid (E5.out.next hb)
  have Ma6 := Lib.hid (Ma5.out.next hb)
  have Mb6 := Lib.hid (Mb5.out.next hb)
  have Mc6 := Lib.hid (Mc5.out.next hb)
  have Md6 := Lib.hid (Md5.out.next hb)
  have Me6 := Lib.hid (Mine.of ho hb)
  have S6 : Hid (w5.heap.size ≤ w6.heap.size) := hb.size
  have Le := Lib.hid Me6.out.lies
  clear ho hb
  clear E5 Ma5 Mb5 Mc5 Md5
  go_wp2_with fail
  refine (refAdd_res (some ⟨gf, 0, none⟩) (some ⟨gg, 0, none⟩) cf cg f g w6 E6.out.1 E6.out.2.1 h1 h2).mono ?_
  rintro e w7 ⟨Ar, cr, rfl, ho, hb⟩
  have E7 := Lib.hid (E6.out.next hb)
  have Ma7 := Lib.hid (Ma6.out.next hb)
  have Mb7 := Lib.hid (Mb6.out.next hb)
  have Mc7 := Lib.hid (Mc6.out.next hb)
  have Md7 := Lib.hid (Md6.out.next hb)
  have Me7 := Lib.hid (Me6.out.next hb)
  have Mr7 := Lib.hid (Mine.of ho hb)
  have S7 : Hid (w6.heap.size ≤ w7.heap.size) := hb.size
  clear ho hb
  clear E6 Ma6 Mb6 Mc6 Md6 Me6
  go_wp2_with fail
  refine (same_true _ _ _ _ w7.heap.size (two vAdd f g) w7 (by have := two_len vAdd f g; omega) Ma7.out.read Mr7.out.read).mono ?_
  rintro e w8' ⟨rfl, n8, rfl⟩
  obtain ⟨w8, hw8⟩ : ∃ v, w7.drewN n8 = v := ⟨_, rfl⟩
  rw [hw8]
  have E8 : Hid (Env v2 (some ⟨gf, 0, none⟩) (some ⟨gg, 0, none⟩) f g gi w8) := by rw [← hw8]; exact E7.out.drewN _
  have S8 : Hid (w7.heap.size ≤ w8.heap.size) := by rw [← hw8]; exact Nat.le_refl _
  have Ma8 := Lib.hid (Ma7.out.drewN n8)
  rw [hw8] at Ma8
  have Mb8 := Lib.hid (Mb7.out.drewN n8)
  rw [hw8] at Mb8
  have Mc8 := Lib.hid (Mc7.out.drewN n8)
  rw [hw8] at Mc8
  have Md8 := Lib.hid (Md7.out.drewN n8)
  rw [hw8] at Md8
  have Me8 := Lib.hid (Me7.out.drewN n8)
  rw [hw8] at Me8
  clear hw8 E7 Ma7 Mb7 Mc7 Md7 Me7 Mr7
  go_wp2_with fail
  refine (refSub_res (some ⟨gf, 0, none⟩) (some ⟨gg, 0, none⟩) cf cg f g w8 E8.out.1 E8.out.2.1 h1 h2).mono ?_
  rintro e w9 ⟨Ar, cr, rfl, ho, hb⟩
  have E9 := Lib.hid (E8.out.next hb)
  have Ma9 := Lib.hid (Ma8.out.next hb)
  have Mb9 := Lib.hid (Mb8.out.next hb)
  have Mc9 := Lib.hid (Mc8.out.next hb)
  have Md9 := Lib.hid (Md8.out.next hb)
  have Me9 := Lib.hid (Me8.out.next hb)
  have Mr9 := Lib.hid (Mine.of ho hb)
  have S9 : Hid (w8.heap.size ≤ w9.heap.size) := hb.size
  clear ho hb
  clear E8 Ma8 Mb8 Mc8 Md8 Me8
  go_wp2_with fail
  refine (same_true _ _ _ _ w9.heap.size (two vSub f g) w9 (by have := two_len vSub f g; omega) Mb9.out.read Mr9.out.read).mono ?_
  rintro e w10' ⟨rfl, n10, rfl⟩
  obtain ⟨w10, hw10⟩ : ∃ v, w9.drewN n10 = v := ⟨_, rfl⟩
  rw [hw10]
  have E10 : Hid (Env v2 (some ⟨gf, 0, none⟩) (some ⟨gg, 0, none⟩) f g gi w10) := by rw [← hw10]; exact E9.out.drewN _
  have S10 : Hid (w9.heap.size ≤ w10.heap.size) := by rw [← hw10]; exact Nat.le_refl _
  have Ma10 := Lib.hid (Ma9.out.drewN n10)
  rw [hw10] at Ma10
  have Mc10 := Lib.hid (Mc9.out.drewN n10)
  rw [hw10] at Mc10
  have Md10 := Lib.hid (Md9.out.drewN n10)
  rw [hw10] at Md10
  have Me10 := Lib.hid (Me9.out.drewN n10)
  rw [hw10] at Me10
  clear hw10 E9 Ma9 Mb9 Mc9 Md9 Me9 Mr9
  go_wp2_with fail
  refine (refOver_res (some ⟨gf, 0, none⟩) cf f w10 E10.out.1 h1).mono ?_
  rintro e w11 ⟨Ar, cr, rfl, ho, hb⟩
  have E11 := Lib.hid (E10.out.next hb)
  have Ma11 := Lib.hid (Ma10.out.next hb)
  have Mc11 := Lib.hid (Mc10.out.next hb)
  have Md11 := Lib.hid (Md10.out.next hb)
  have Me11 := Lib.hid (Me10.out.next hb)
  have Mr11 := Lib.hid (Mine.of ho hb)
  have S11 : Hid (w10.heap.size ≤ w11.heap.size) := hb.size
  clear ho hb
  clear E10 Ma10 Mc10 Md10 Me10
  go_wp2_with fail
  refine (same_true _ _ _ _ w11.heap.size (one vOver f) w11 (by have := one_len vOver f; omega) Mc11.out.read Mr11.out.read).mono ?_
  rintro e w12' ⟨rfl, n12, rfl⟩
  obtain ⟨w12, hw12⟩ : ∃ v, w11.drewN n12 = v := ⟨_, rfl⟩
  rw [hw12]
  have E12 : Hid (Env v2 (some ⟨gf, 0, none⟩) (some ⟨gg, 0, none⟩) f g gi w12) := by rw [← hw12]; exact E11.out.drewN _
  have S12 : Hid (w11.heap.size ≤ w12.heap.size) := by rw [← hw12]; exact Nat.le_refl _
  have Ma12 := Lib.hid (Ma11.out.drewN n12)
  rw [hw12] at Ma12
  have Md12 := Lib.hid (Md11.out.drewN n12)
  rw [hw12] at Md12
  have Me12 := Lib.hid (Me11.out.drewN n12)
  rw [hw12] at Me12
  clear hw12 E11 Ma11 Mc11 Md11 Me11 Mr11
  go_wp2_with fail
  refine (refBack_res (some ⟨gf, 0, none⟩) cf f w12 E12.out.1 h1).mono ?_
  rintro e w13 ⟨Ar, cr, rfl, ho, hb⟩
  have E13 := Lib.hid (E12.out.next hb)
  have Ma13 := Lib.hid (Ma12.out.next hb)
  have Md13 := Lib.hid (Md12.out.next hb)
  have Me13 := Lib.hid (Me12.out.next hb)
  have Mr13 := Lib.hid (Mine.of ho hb)
  have S13 : Hid (w12.heap.size ≤ w13.heap.size) := hb.size
  clear ho hb
  clear E12 Ma12 Md12 Me12
  go_wp2_with fail
  refine (same_true _ _ _ _ w13.heap.size (one vBack f) w13 (by have := one_len vBack f; omega) Md13.out.read Mr13.out.read).mono ?_
  rintro e w14' ⟨rfl, n14, rfl⟩
  obtain ⟨w14, hw14⟩ : ∃ v, w13.drewN n14 = v := ⟨_, rfl⟩
  rw [hw14]
  have E14 : Hid (Env v2 (some ⟨gf, 0, none⟩) (some ⟨gg, 0, none⟩) f g gi w14) := by rw [← hw14]; exact E13.out.drewN _
  have S14 : Hid (w13.heap.size ≤ w14.heap.size) := by rw [← hw14]; exact Nat.le_refl _
  have Ma14 := Lib.hid (Ma13.out.drewN n14)
  rw [hw14] at Ma14
  have Md14 := Lib.hid (Md13.out.drewN n14)
  rw [hw14] at Md14
  have Me14 := Lib.hid (Me13.out.drewN n14)
  rw [hw14] at Me14
  clear hw14 E13 Ma13 Md13 Me13 Mr13
  go_wp2_with fail
  refine (refTimes_res (some ⟨gf, 0, none⟩) (some ⟨gg, 0, none⟩) cf cg f g w14 E14.out.1 E14.out.2.1 h1 h2).mono ?_
  rintro e w15 ⟨Ar, cr, rfl, ho, hb⟩
  have E15 := Lib.hid (E14.out.next hb)
  have Ma15 := Lib.hid (Ma14.out.next hb)
  have Md15 := Lib.hid (Md14.out.next hb)
  have Me15 := Lib.hid (Me14.out.next hb)
  have Mr15 := Lib.hid (Mine.of ho hb)
  have S15 : Hid (w14.heap.size ≤ w15.heap.size) := hb.size
  clear ho hb
  clear E14 Ma14 Md14 Me14
  go_wp2_with fail
  refine (same_true _ _ _ _ w15.heap.size (two vTimes f g) w15 (by have := two_len vTimes f g; omega) Me15.out.read Mr15.out.read).mono ?_
  rintro e w16' ⟨rfl, n16, rfl⟩
  obtain ⟨w16, hw16⟩ : ∃ v, w15.drewN n16 = v := ⟨_, rfl⟩
  rw [hw16]
  have E16 : Hid (Env v2 (some ⟨gf, 0, none⟩) (some ⟨gg, 0, none⟩) f g gi w16) := by rw [← hw16]; exact E15.out.drewN _
  have S16 : Hid (w15.heap.size ≤ w16.heap.size) := by rw [← hw16]; exact Nat.le_refl _
  have Ma16 := Lib.hid (Ma15.out.drewN n16)
  rw [hw16] at Ma16
  have Md16 := Lib.hid (Md15.out.drewN n16)
  rw [hw16] at Md16
  clear hw16 E15 Ma15 Md15 Me15 Mr15
  go_wp2_with fail
  refine (pNorm_two (some ⟨gi, 0, none⟩) (some ⟨gg, 0, none⟩) (f.length + 3) cg _ _ f g w16 rfl rfl (lent_has E16.out.2.2.1) E16.out.2.1 h1 h2).mono ?_
  rintro e w17 ⟨rfl, hb⟩
  have E17 := Lib.hid (E16.out.next hb)
  have S17 : Hid (w16.heap.size ≤ w17.heap.size) := hb.size
  have Ma17 := Lib.hid (Ma16.out.next hb)
  have Md17 := Lib.hid (Md16.out.next hb)
  clear hb
  clear E16 Ma16 Md16
  go_wp2_with fail
  refine (refNorm_two (some ⟨gf, 0, none⟩) (some ⟨gg, 0, none⟩) cf cg _ _ f g w17 rfl rfl E17.out.1 E17.out.2.1 h1 h2).mono ?_
  rintro e w18 ⟨rfl, hb⟩
  have E18 := Lib.hid (E17.out.next hb)
  have S18 : Hid (w17.heap.size ≤ w18.heap.size) := hb.size
  have Ma18 := Lib.hid (Ma17.out.next hb)
  have Md18 := Lib.hid (Md17.out.next hb)
  clear hb
  clear E17 Ma17 Md17
  have T : Hid (v2.heap.size ≤ w1.heap.size ∧ w1.heap.size ≤ w2.heap.size ∧ w2.heap.size ≤ w3.heap.size ∧ w3.heap.size ≤ w4.heap.size ∧ w4.heap.size ≤ w5.heap.size ∧ w5.heap.size ≤ w6.heap.size ∧ w6.heap.size ≤ w18.heap.size) :=
    ⟨E1.out.2.2.2.size, S2.out, S3.out, S4.out, S5.out, S6.out, by have a7 := S7.out; have a8 := S8.out; have a9 := S9.out; have a10 := S10.out; have a11 := S11.out; have a12 := S12.out; have a13 := S13.out; have a14 := S14.out; have a15 := S15.out; have a16 := S16.out; have a17 := S17.out; have a18 := S18.out; omega⟩
  clear S2 S3 S4 S5 S6 S7 S8 S9 S10 S11 S12 S13 S14 S15 S16 S17 S18
  go_wp2_with fail
  refine (over_any _ _ _ (two vAdd f g) w18 Ma18.out (by have := two_len vAdd f g; omega)).mono ?_
  rintro e w19 ⟨rfl, hgr⟩
  have E19 : Hid (Env v2 (some ⟨gf, 0, none⟩) (some ⟨gg, 0, none⟩) f g gi w19) := by
    obtain ⟨t0, t1, t2, t3, t4, t5, t6⟩ := T.out
    have hb := E18.out.2.2.2
    exact E18.out.kept (lo := w1.heap.size) (hi := w2.heap.size) ((HF.out.below hb).mono t0) ((HG.out.below hb).mono t0) Hgi.out t0 hgr (fun a e => ⟨by have := (La.out a e).1; omega, (La.out a e).2⟩) (by omega)
  have T19 := Lib.hid T.out
  have T : Hid (v2.heap.size ≤ w1.heap.size ∧ w1.heap.size ≤ w2.heap.size ∧ w2.heap.size ≤ w3.heap.size ∧ w3.heap.size ≤ w4.heap.size ∧ w4.heap.size ≤ w5.heap.size ∧ w5.heap.size ≤ w6.heap.size ∧ w6.heap.size ≤ w19.heap.size) := by
    obtain ⟨t0, t1, t2, t3, t4, t5, t6⟩ := T19.out
    have := hgr.size
    exact ⟨t0, t1, t2, t3, t4, t5, by omega⟩
  have Md19 := Lib.hid (Md18.out.kept hgr La.out (by obtain ⟨t0, t1, t2, t3, t4, t5, t6⟩ := T.out; omega))
  clear hgr T19 E18 Ma18 Md18
  go_wp2_with fail
  refine (over_any _ _ _ (one vBack f) w19 Md19.out (by have := one_len vBack f; omega)).mono ?_
  rintro e w20 ⟨rfl, hgr⟩
  have E20 : Hid (Env v2 (some ⟨gf, 0, none⟩) (some ⟨gg, 0, none⟩) f g gi w20) := by
    obtain ⟨t0, t1, t2, t3, t4, t5, t6⟩ := T.out
    have hb := E19.out.2.2.2
    exact E19.out.kept (lo := w1.heap.size) (hi := w5.heap.size) ((HF.out.below hb).mono t0) ((HG.out.below hb).mono t0) Hgi.out t0 hgr (fun a e => ⟨by have := (Ld.out a e).1; omega, (Ld.out a e).2⟩) (by omega)
  have T20 := Lib.hid T.out
  have T : Hid (v2.heap.size ≤ w1.heap.size ∧ w1.heap.size ≤ w2.heap.size ∧ w2.heap.size ≤ w3.heap.size ∧ w3.heap.size ≤ w4.heap.size ∧ w4.heap.size ≤ w5.heap.size ∧ w5.heap.size ≤ w6.heap.size ∧ w6.heap.size ≤ w20.heap.size) := by
    obtain ⟨t0, t1, t2, t3, t4, t5, t6⟩ := T20.out
    have := hgr.size
    exact ⟨t0, t1, t2, t3, t4, t5, by omega⟩
  clear hgr T20 E19 Md19
  go_wp2_with fail
  refine (kept_any gi v2.heap.size (some ⟨gf, 0, none⟩) cf f w20 E20.out.2.2.1 E20.out.1 h1).mono ?_
  rintro e wz' ⟨rfl, nz, rfl⟩
  go_wp2_with fail
  refine (awake_any (w20.drewN nz) (tab_d (tab_b TB B2) (Lib.hid E20.out.2.2.2))).mono ?_
  rintro e wy ⟨rfl, hb⟩
  have BB := Lib.hid ((E20.out.drewN nz).2.2.2.trans (hb.mono (E20.out.drewN nz).2.2.2.size))
  clear hb
  go_wp2
  go_ret
  exact ⟨rfl, B2.out.trans (BB.out.mono B2.out.size)⟩
end Go.Proofs.Ytneopnlklhcopaa
