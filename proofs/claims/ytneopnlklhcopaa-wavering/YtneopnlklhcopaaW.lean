/- The law WaveRing, walked. -/
import Derived.Test.YtneopnlklhcopaaQ
namespace Go.Proofs.Ytneopnlklhcopaa
open Go.RowKit Slices Go.Proofs.Ytneopnlklhcopaa.Ring

set_option maxRecDepth 100000 in
set_option maxHeartbeats 8000000 in
theorem ring_small (A A' A'' : Option Addr) (c c' c'' : Nat) (ns ms ks : List Int) (w : World) (hf : Has w w.heap.size A ns) (hg : Has w w.heap.size A' ms) (hh : Has w w.heap.size A'' ks) (h1 : ns.length ≤ 300) (h2 : ms.length ≤ 300) (h3 : ks.length ≤ 300) (TB : Hid (Tab w)) :
    Calls Try.prog 9 #[.slice A ns.length c, .slice A' ms.length c', .slice A'' ks.length c''] w fun e w' => e = .returned (.bool true) ∧ Below w.heap.size w w' := by
  obtain ⟨i0, hi0, hz0, hz1, hz2⟩ := info_parts Try.info3
  obtain ⟨N, hN⟩ : ∃ N : Nat, N = 256 := ⟨_, rfl⟩
  have n0 : N ≤ 256 := by omega
  have n1 : 256 ≤ N := by omega
  have HN := Lib.hid hN
  clear hN
  have Hns_0 := Lib.hid hf
  have Hms_0 := Lib.hid hg
  have Hks_0 := Lib.hid hh
  have B_0 := Lib.hid (Below.refl w.heap.size w)
  clear hf hg hh
  go_enter Try.func9, Try.ntmps9
  go_wp2_with fail
  refine (lowp_any A c ns w Hns_0.out h1).mono ?_
  rintro e w1 ⟨x1, hp, gx1, cx1, rfl, ho, hb⟩
  have Hms_1 := Lib.hid (has_next Hms_0.out hb)
  have Hks_1 := Lib.hid (has_next Hks_0.out hb)
  have Px1 := Lib.hid hp
  have Hx1_1 := Lib.hid (own_read ho)
  have B_1 := Lib.hid (B_0.out.trans (hb.mono B_0.out.size))
  clear ho hb hp B_0 Hns_0 Hms_0 Hks_0
  go_wp2_with fail
  refine (lowp_any A' c' ms w1 Hms_1.out h2).mono ?_
  rintro e w2 ⟨x2, hp, gx2, cx2, rfl, ho, hb⟩
  have Hks_2 := Lib.hid (has_next Hks_1.out hb)
  have Hx1_2 := Lib.hid (has_next Hx1_1.out hb)
  have Px2 := Lib.hid hp
  have Hx2_2 := Lib.hid (own_read ho)
  have B_2 := Lib.hid (B_1.out.trans (hb.mono B_1.out.size))
  clear ho hb hp B_1 Hms_1 Hks_1 Hx1_1
  go_wp2_with fail
  refine (lowp_any A'' c'' ks w2 Hks_2.out h3).mono ?_
  rintro e w3 ⟨x3, hp, gx3, cx3, rfl, ho, hb⟩
  have Hx1_3 := Lib.hid (has_next Hx1_2.out hb)
  have Hx2_3 := Lib.hid (has_next Hx2_2.out hb)
  have Px3 := Lib.hid hp
  have Hx3_3 := Lib.hid (own_read ho)
  have B_3 := Lib.hid (B_2.out.trans (hb.mono B_2.out.size))
  clear ho hb hp B_2 Hks_2 Hx1_2 Hx2_2
  go_wp2_with (at_make; refine wpList_make_full _ rfl _ _ 22 rfl w3.heap.size 3 i0 (.int .i64 0) 1 Try.underlying22 hi0 hz0 hz1 _ _ _ _ N rfl rfl (by omega) (by omega) (by rw [hz2]; omega) (by unfold maxLen; omega) (Nat.le_refl _) ?_; intro w4 hown hgrow; rw [made_ints] at hown; have HO := Lib.hid hown; clear hown; have HG := Lib.hid hgrow; clear hgrow)
  have hb : Below w3.heap.size w3 w4 := (Below.refl _ _).grown HG.out (Nat.le_refl _) (by simp)
  have Hx4_4 : Hid (Has w4 w4.heap.size (some ⟨w3.heap.size, 0, none⟩) zeroL) := by have HOO := HO.out; have e := HN.out; rw [e] at HOO; exact own_has HOO
  obtain ⟨gx4, hgx4⟩ : ∃ v, w3.heap.size = v := ⟨_, rfl⟩
  rw [hgx4] at Hx4_4 ⊢
  have HB := Lib.hid hb
  clear hb HO HG
  have Hx1_4 := Lib.hid (has_next Hx1_3.out HB.out)
  have Hx2_4 := Lib.hid (has_next Hx2_3.out HB.out)
  have Hx3_4 := Lib.hid (has_next Hx3_3.out HB.out)
  have B_4 := Lib.hid (B_3.out.trans (HB.out.mono B_3.out.size))
  clear HB hgx4 B_3 Hx1_3 Hx2_3 Hx3_3
  go_wp2_with fail
  refine (pTimes_res (some ⟨gx1, 0, none⟩) (some ⟨gx2, 0, none⟩) cx1 cx2 x1 x2 w4 Hx1_4.out Hx2_4.out (by have := Px1.out.1; omega) (by have := Px2.out.1; omega)).mono ?_
  rintro e w5 ⟨Ax5, cx5, rfl, ho, hb⟩
  have Hx1_5 := Lib.hid (has_next Hx1_4.out hb)
  have Hx2_5 := Lib.hid (has_next Hx2_4.out hb)
  have Hx3_5 := Lib.hid (has_next Hx3_4.out hb)
  have Hx4_5 := Lib.hid (has_next Hx4_4.out hb)
  have Hx5_5 := Lib.hid (own_read ho)
  have B_5 := Lib.hid (B_4.out.trans (hb.mono B_4.out.size))
  clear ho hb B_4 Hx1_4 Hx2_4 Hx3_4 Hx4_4
  go_wp2_with fail
  refine (pTimes_res (some ⟨gx2, 0, none⟩) (some ⟨gx1, 0, none⟩) cx2 cx1 x2 x1 w5 Hx2_5.out Hx1_5.out (by have := Px2.out.1; omega) (by have := Px1.out.1; omega)).mono ?_
  rintro e w6 ⟨Ax6, cx6, rfl, ho, hb⟩
  have Hx1_6 := Lib.hid (has_next Hx1_5.out hb)
  have Hx2_6 := Lib.hid (has_next Hx2_5.out hb)
  have Hx3_6 := Lib.hid (has_next Hx3_5.out hb)
  have Hx4_6 := Lib.hid (has_next Hx4_5.out hb)
  have Hx5_6 := Lib.hid (has_next Hx5_5.out hb)
  have Hx6_6 := Lib.hid (own_read ho)
  have B_6 := Lib.hid (B_5.out.trans (hb.mono B_5.out.size))
  clear ho hb B_5 Hx1_5 Hx2_5 Hx3_5 Hx4_5 Hx5_5
  go_wp2_with fail
  refine (same_eq Ax5 Ax6 cx5 cx6 (two vTimes x1 x2) (two vTimes x2 x1) w6 (times_comm_list Px1.out Px2.out) (by have := two_len vTimes x1 x2; omega) Hx5_6.out Hx6_6.out).mono ?_
  rintro e w7' ⟨rfl, n7, rfl⟩
  obtain ⟨w7, hw⟩ : ∃ v, w6.drewN n7 = v := ⟨_, rfl⟩
  rw [hw]
  have B_7 := Lib.hid (below_drewN B_6.out n7)
  rw [hw] at B_7
  have Hx1_7 := Lib.hid (Hx1_6.out.drewN n7)
  have Hx1_7 : Hid (Has ((w6.drewN n7)) ((w6.drewN n7)).heap.size _ _) := Hx1_7
  rw [hw] at Hx1_7
  have Hx2_7 := Lib.hid (Hx2_6.out.drewN n7)
  have Hx2_7 : Hid (Has ((w6.drewN n7)) ((w6.drewN n7)).heap.size _ _) := Hx2_7
  rw [hw] at Hx2_7
  have Hx3_7 := Lib.hid (Hx3_6.out.drewN n7)
  have Hx3_7 : Hid (Has ((w6.drewN n7)) ((w6.drewN n7)).heap.size _ _) := Hx3_7
  rw [hw] at Hx3_7
  have Hx4_7 := Lib.hid (Hx4_6.out.drewN n7)
  have Hx4_7 : Hid (Has ((w6.drewN n7)) ((w6.drewN n7)).heap.size _ _) := Hx4_7
  rw [hw] at Hx4_7
  clear hw B_6 Hx1_6 Hx2_6 Hx3_6 Hx4_6 Hx5_6 Hx6_6
  go_wp2_with fail
  refine (pTimes_res (some ⟨gx2, 0, none⟩) (some ⟨gx3, 0, none⟩) cx2 cx3 x2 x3 w7 Hx2_7.out Hx3_7.out (by have := Px2.out.1; omega) (by have := Px3.out.1; omega)).mono ?_
  rintro e w8 ⟨Ax8, cx8, rfl, ho, hb⟩
  have Hx1_8 := Lib.hid (has_next Hx1_7.out hb)
  have Hx2_8 := Lib.hid (has_next Hx2_7.out hb)
  have Hx3_8 := Lib.hid (has_next Hx3_7.out hb)
  have Hx4_8 := Lib.hid (has_next Hx4_7.out hb)
  have Hx8_8 := Lib.hid (own_read ho)
  have B_8 := Lib.hid (B_7.out.trans (hb.mono B_7.out.size))
  clear ho hb B_7 Hx1_7 Hx2_7 Hx3_7 Hx4_7
  go_wp2_with fail
  refine (pTimes_res (some ⟨gx1, 0, none⟩) Ax8 cx1 cx8 x1 (two vTimes x2 x3) w8 Hx1_8.out Hx8_8.out (by have := Px1.out.1; omega) (by have := two_len vTimes x2 x3; omega)).mono ?_
  rintro e w9 ⟨Ax9, cx9, rfl, ho, hb⟩
  have Hx1_9 := Lib.hid (has_next Hx1_8.out hb)
  have Hx2_9 := Lib.hid (has_next Hx2_8.out hb)
  have Hx3_9 := Lib.hid (has_next Hx3_8.out hb)
  have Hx4_9 := Lib.hid (has_next Hx4_8.out hb)
  have Hx9_9 := Lib.hid (own_read ho)
  have B_9 := Lib.hid (B_8.out.trans (hb.mono B_8.out.size))
  clear ho hb B_8 Hx1_8 Hx2_8 Hx3_8 Hx4_8 Hx8_8
  go_wp2_with fail
  refine (pTimes_res (some ⟨gx1, 0, none⟩) (some ⟨gx2, 0, none⟩) cx1 cx2 x1 x2 w9 Hx1_9.out Hx2_9.out (by have := Px1.out.1; omega) (by have := Px2.out.1; omega)).mono ?_
  rintro e w10 ⟨Ax10, cx10, rfl, ho, hb⟩
  have Hx1_10 := Lib.hid (has_next Hx1_9.out hb)
  have Hx2_10 := Lib.hid (has_next Hx2_9.out hb)
  have Hx3_10 := Lib.hid (has_next Hx3_9.out hb)
  have Hx4_10 := Lib.hid (has_next Hx4_9.out hb)
  have Hx9_10 := Lib.hid (has_next Hx9_9.out hb)
  have Hx10_10 := Lib.hid (own_read ho)
  have B_10 := Lib.hid (B_9.out.trans (hb.mono B_9.out.size))
  clear ho hb B_9 Hx1_9 Hx2_9 Hx3_9 Hx4_9 Hx9_9
  go_wp2_with fail
  refine (pTimes_res Ax10 (some ⟨gx3, 0, none⟩) cx10 cx3 (two vTimes x1 x2) x3 w10 Hx10_10.out Hx3_10.out (by have := two_len vTimes x1 x2; omega) (by have := Px3.out.1; omega)).mono ?_
  rintro e w11 ⟨Ax11, cx11, rfl, ho, hb⟩
  have Hx1_11 := Lib.hid (has_next Hx1_10.out hb)
  have Hx2_11 := Lib.hid (has_next Hx2_10.out hb)
  have Hx3_11 := Lib.hid (has_next Hx3_10.out hb)
  have Hx4_11 := Lib.hid (has_next Hx4_10.out hb)
  have Hx9_11 := Lib.hid (has_next Hx9_10.out hb)
  have Hx11_11 := Lib.hid (own_read ho)
  have B_11 := Lib.hid (B_10.out.trans (hb.mono B_10.out.size))
  clear ho hb B_10 Hx1_10 Hx2_10 Hx3_10 Hx4_10 Hx9_10 Hx10_10
  go_wp2_with fail
  refine (same_eq Ax9 Ax11 cx9 cx11 (two vTimes x1 (two vTimes x2 x3)) (two vTimes (two vTimes x1 x2) x3) w11 (times_assoc_list Px1.out Px2.out Px3.out) (by have := two_len vTimes x1 (two vTimes x2 x3); omega) Hx9_11.out Hx11_11.out).mono ?_
  rintro e w12' ⟨rfl, n12, rfl⟩
  obtain ⟨w12, hw⟩ : ∃ v, w11.drewN n12 = v := ⟨_, rfl⟩
  rw [hw]
  have B_12 := Lib.hid (below_drewN B_11.out n12)
  rw [hw] at B_12
  have Hx1_12 := Lib.hid (Hx1_11.out.drewN n12)
  have Hx1_12 : Hid (Has ((w11.drewN n12)) ((w11.drewN n12)).heap.size _ _) := Hx1_12
  rw [hw] at Hx1_12
  have Hx2_12 := Lib.hid (Hx2_11.out.drewN n12)
  have Hx2_12 : Hid (Has ((w11.drewN n12)) ((w11.drewN n12)).heap.size _ _) := Hx2_12
  rw [hw] at Hx2_12
  have Hx3_12 := Lib.hid (Hx3_11.out.drewN n12)
  have Hx3_12 : Hid (Has ((w11.drewN n12)) ((w11.drewN n12)).heap.size _ _) := Hx3_12
  rw [hw] at Hx3_12
  have Hx4_12 := Lib.hid (Hx4_11.out.drewN n12)
  have Hx4_12 : Hid (Has ((w11.drewN n12)) ((w11.drewN n12)).heap.size _ _) := Hx4_12
  rw [hw] at Hx4_12
  clear hw B_11 Hx1_11 Hx2_11 Hx3_11 Hx4_11 Hx9_11 Hx11_11
  go_wp2_with fail
  refine (pAdd_res (some ⟨gx2, 0, none⟩) (some ⟨gx3, 0, none⟩) cx2 cx3 x2 x3 w12 Hx2_12.out Hx3_12.out (by have := Px2.out.1; omega) (by have := Px3.out.1; omega)).mono ?_
  rintro e w13 ⟨Ax13, cx13, rfl, ho, hb⟩
  have Hx1_13 := Lib.hid (has_next Hx1_12.out hb)
  have Hx2_13 := Lib.hid (has_next Hx2_12.out hb)
  have Hx3_13 := Lib.hid (has_next Hx3_12.out hb)
  have Hx4_13 := Lib.hid (has_next Hx4_12.out hb)
  have Hx13_13 := Lib.hid (own_read ho)
  have B_13 := Lib.hid (B_12.out.trans (hb.mono B_12.out.size))
  clear ho hb B_12 Hx1_12 Hx2_12 Hx3_12 Hx4_12
  go_wp2_with fail
  refine (pTimes_res (some ⟨gx1, 0, none⟩) Ax13 cx1 cx13 x1 (two vAdd x2 x3) w13 Hx1_13.out Hx13_13.out (by have := Px1.out.1; omega) (by have := two_len vAdd x2 x3; omega)).mono ?_
  rintro e w14 ⟨Ax14, cx14, rfl, ho, hb⟩
  have Hx1_14 := Lib.hid (has_next Hx1_13.out hb)
  have Hx2_14 := Lib.hid (has_next Hx2_13.out hb)
  have Hx3_14 := Lib.hid (has_next Hx3_13.out hb)
  have Hx4_14 := Lib.hid (has_next Hx4_13.out hb)
  have Hx14_14 := Lib.hid (own_read ho)
  have B_14 := Lib.hid (B_13.out.trans (hb.mono B_13.out.size))
  clear ho hb B_13 Hx1_13 Hx2_13 Hx3_13 Hx4_13 Hx13_13
  go_wp2_with fail
  refine (pTimes_res (some ⟨gx1, 0, none⟩) (some ⟨gx2, 0, none⟩) cx1 cx2 x1 x2 w14 Hx1_14.out Hx2_14.out (by have := Px1.out.1; omega) (by have := Px2.out.1; omega)).mono ?_
  rintro e w15 ⟨Ax15, cx15, rfl, ho, hb⟩
  have Hx1_15 := Lib.hid (has_next Hx1_14.out hb)
  have Hx2_15 := Lib.hid (has_next Hx2_14.out hb)
  have Hx3_15 := Lib.hid (has_next Hx3_14.out hb)
  have Hx4_15 := Lib.hid (has_next Hx4_14.out hb)
  have Hx14_15 := Lib.hid (has_next Hx14_14.out hb)
  have Hx15_15 := Lib.hid (own_read ho)
  have B_15 := Lib.hid (B_14.out.trans (hb.mono B_14.out.size))
  clear ho hb B_14 Hx1_14 Hx2_14 Hx3_14 Hx4_14 Hx14_14
  go_wp2_with fail
  refine (pTimes_res (some ⟨gx1, 0, none⟩) (some ⟨gx3, 0, none⟩) cx1 cx3 x1 x3 w15 Hx1_15.out Hx3_15.out (by have := Px1.out.1; omega) (by have := Px3.out.1; omega)).mono ?_
  rintro e w16 ⟨Ax16, cx16, rfl, ho, hb⟩
  have Hx1_16 := Lib.hid (has_next Hx1_15.out hb)
  have Hx2_16 := Lib.hid (has_next Hx2_15.out hb)
  have Hx4_16 := Lib.hid (has_next Hx4_15.out hb)
  have Hx14_16 := Lib.hid (has_next Hx14_15.out hb)
  have Hx15_16 := Lib.hid (has_next Hx15_15.out hb)
  have Hx16_16 := Lib.hid (own_read ho)
  have B_16 := Lib.hid (B_15.out.trans (hb.mono B_15.out.size))
  clear ho hb B_15 Hx1_15 Hx2_15 Hx3_15 Hx4_15 Hx14_15 Hx15_15
  go_wp2_with fail
  refine (pAdd_res Ax15 Ax16 cx15 cx16 (two vTimes x1 x2) (two vTimes x1 x3) w16 Hx15_16.out Hx16_16.out (by have := two_len vTimes x1 x2; omega) (by have := two_len vTimes x1 x3; omega)).mono ?_
  rintro e w17 ⟨Ax17, cx17, rfl, ho, hb⟩
  have Hx1_17 := Lib.hid (has_next Hx1_16.out hb)
  have Hx2_17 := Lib.hid (has_next Hx2_16.out hb)
  have Hx4_17 := Lib.hid (has_next Hx4_16.out hb)
  have Hx14_17 := Lib.hid (has_next Hx14_16.out hb)
  have Hx17_17 := Lib.hid (own_read ho)
  have B_17 := Lib.hid (B_16.out.trans (hb.mono B_16.out.size))
  clear ho hb B_16 Hx1_16 Hx2_16 Hx4_16 Hx14_16 Hx15_16 Hx16_16
  go_wp2_with fail
  refine (same_eq Ax14 Ax17 cx14 cx17 (two vTimes x1 (two vAdd x2 x3)) (two vAdd (two vTimes x1 x2) (two vTimes x1 x3)) w17 (times_add_list Px1.out Px2.out Px3.out) (by have := two_len vTimes x1 (two vAdd x2 x3); omega) Hx14_17.out Hx17_17.out).mono ?_
  rintro e w18' ⟨rfl, n18, rfl⟩
  obtain ⟨w18, hw⟩ : ∃ v, w17.drewN n18 = v := ⟨_, rfl⟩
  rw [hw]
  have B_18 := Lib.hid (below_drewN B_17.out n18)
  rw [hw] at B_18
  have Hx1_18 := Lib.hid (Hx1_17.out.drewN n18)
  have Hx1_18 : Hid (Has ((w17.drewN n18)) ((w17.drewN n18)).heap.size _ _) := Hx1_18
  rw [hw] at Hx1_18
  have Hx2_18 := Lib.hid (Hx2_17.out.drewN n18)
  have Hx2_18 : Hid (Has ((w17.drewN n18)) ((w17.drewN n18)).heap.size _ _) := Hx2_18
  rw [hw] at Hx2_18
  have Hx4_18 := Lib.hid (Hx4_17.out.drewN n18)
  have Hx4_18 : Hid (Has ((w17.drewN n18)) ((w17.drewN n18)).heap.size _ _) := Hx4_18
  rw [hw] at Hx4_18
  clear hw B_17 Hx1_17 Hx2_17 Hx4_17 Hx14_17 Hx17_17
  go_wp2_with fail
  refine (pSub_len (some ⟨gx4, 0, none⟩) (some ⟨gx1, 0, none⟩) N cx1 zeroL x1 N w18 (by rw [zero_len]; exact HN.out.symm) Hx4_18.out Hx1_18.out (by rw [zero_len]; omega) (by have := Px1.out.1; omega)).mono ?_
  rintro e w19 ⟨Ax19, cx19, rfl, ho, hb⟩
  have Hx1_19 := Lib.hid (has_next Hx1_18.out hb)
  have Hx2_19 := Lib.hid (has_next Hx2_18.out hb)
  have Hx19_19 := Lib.hid (own_read ho)
  have B_19 := Lib.hid (B_18.out.trans (hb.mono B_18.out.size))
  clear ho hb B_18 Hx1_18 Hx2_18 Hx4_18
  obtain ⟨na, hna⟩ : ∃ v, normL [x1] = v := ⟨_, rfl⟩
  obtain ⟨nb, hnb⟩ : ∃ v, normL [x2] = v := ⟨_, rfl⟩
  have hng := norm_neg_list Px1.out
  have hmx := norm_max_list Px1.out Px2.out
  obtain ⟨a0, a1⟩ := normL_bd [x1]
  obtain ⟨b0, b1⟩ := normL_bd [x2]
  rw [hna] at hng hmx a0 a1
  rw [hnb] at hmx b0 b1
  have HNA := Lib.hid hna
  have HNB := Lib.hid hnb
  have HNG := Lib.hid hng
  have HMX := Lib.hid hmx
  clear hna hnb hng hmx
  go_wp2_with fail
  refine (pNorm_one Ax19 cx19 _ (two vSub zeroL x1) w19 rfl Hx19_19.out (by have := two_len vSub zeroL x1; omega)).mono ?_
  rw [HNG.out]
  rintro e w20 ⟨rfl, hb⟩
  have Hx1_20 := Lib.hid (has_next Hx1_19.out hb)
  have Hx2_20 := Lib.hid (has_next Hx2_19.out hb)
  have B_20 := Lib.hid (B_19.out.trans (hb.mono B_19.out.size))
  clear hb B_19 Hx1_19 Hx2_19 Hx19_19
  go_wp2_with fail
  refine (pNorm_one (some ⟨gx1, 0, none⟩) cx1 _ x1 w20 rfl Hx1_20.out (by have := Px1.out.1; omega)).mono ?_
  rw [HNA.out]
  rintro e w21 ⟨rfl, hb⟩
  have Hx1_21 := Lib.hid (has_next Hx1_20.out hb)
  have Hx2_21 := Lib.hid (has_next Hx2_20.out hb)
  have B_21 := Lib.hid (B_20.out.trans (hb.mono B_20.out.size))
  clear hb B_20 Hx1_20 Hx2_20
  rcases (show na < nb ∨ nb ≤ na by omega) with hle | hle
  · have HM2 : Hid (normL [x1, x2] = nb) := by have := HMX.out; show _ = _; omega
    go_wp2_with fail
    refine (pNorm_two (some ⟨gx1, 0, none⟩) (some ⟨gx2, 0, none⟩) cx1 cx2 _ _ x1 x2 w21 rfl rfl Hx1_21.out Hx2_21.out (by have := Px1.out.1; omega) (by have := Px2.out.1; omega)).mono ?_
    rw [HM2.out]
    rintro e w22 ⟨rfl, hb⟩
    have Hx1_22 := Lib.hid (has_next Hx1_21.out hb)
    have Hx2_22 := Lib.hid (has_next Hx2_21.out hb)
    have B_22 := Lib.hid (B_21.out.trans (hb.mono B_21.out.size))
    clear hb B_21 Hx1_21 Hx2_21
    go_wp2_with fail
    refine (pNorm_one (some ⟨gx1, 0, none⟩) cx1 _ x1 w22 rfl Hx1_22.out (by have := Px1.out.1; omega)).mono ?_
    rw [HNA.out]
    rintro e w23 ⟨rfl, hb⟩
    have Hx2_23 := Lib.hid (has_next Hx2_22.out hb)
    have B_23 := Lib.hid (B_22.out.trans (hb.mono B_22.out.size))
    clear hb B_22 Hx1_22 Hx2_22
    go_wp2_with fail
    refine (pNorm_one (some ⟨gx2, 0, none⟩) cx2 _ x2 w23 rfl Hx2_23.out (by have := Px2.out.1; omega)).mono ?_
    rw [HNB.out]
    rintro e w24 ⟨rfl, hb⟩
    have B_24 := Lib.hid (B_23.out.trans (hb.mono B_23.out.size))
    clear hb B_23 Hx2_23
    go_wp2_with fail
    refine (awake_any w24).mono ?_
    rintro e w25 ⟨rfl, hb⟩
    have B_25 := Lib.hid (B_24.out.trans (hb.mono B_24.out.size))
    clear hb
    go_wp2
    go_ret
    exact ⟨rfl, B_25.out⟩
  · have HM2 : Hid (normL [x1, x2] = na) := by have := HMX.out; show _ = _; omega
    go_wp2_with fail
    refine (pNorm_two (some ⟨gx1, 0, none⟩) (some ⟨gx2, 0, none⟩) cx1 cx2 _ _ x1 x2 w21 rfl rfl Hx1_21.out Hx2_21.out (by have := Px1.out.1; omega) (by have := Px2.out.1; omega)).mono ?_
    rw [HM2.out]
    rintro e w22 ⟨rfl, hb⟩
    have Hx1_22 := Lib.hid (has_next Hx1_21.out hb)
    have Hx2_22 := Lib.hid (has_next Hx2_21.out hb)
    have B_22 := Lib.hid (B_21.out.trans (hb.mono B_21.out.size))
    clear hb B_21 Hx1_21 Hx2_21
    go_wp2_with fail
    refine (pNorm_one (some ⟨gx1, 0, none⟩) cx1 _ x1 w22 rfl Hx1_22.out (by have := Px1.out.1; omega)).mono ?_
    rw [HNA.out]
    rintro e w23 ⟨rfl, hb⟩
    have Hx2_23 := Lib.hid (has_next Hx2_22.out hb)
    have B_23 := Lib.hid (B_22.out.trans (hb.mono B_22.out.size))
    clear hb B_22 Hx1_22 Hx2_22
    go_wp2_with fail
    refine (pNorm_one (some ⟨gx2, 0, none⟩) cx2 _ x2 w23 rfl Hx2_23.out (by have := Px2.out.1; omega)).mono ?_
    rw [HNB.out]
    rintro e w24 ⟨rfl, hb⟩
    have B_24 := Lib.hid (B_23.out.trans (hb.mono B_23.out.size))
    clear hb B_23 Hx2_23
    go_wp2_with fail
    refine (awake_any w24).mono ?_
    rintro e w25 ⟨rfl, hb⟩
    have B_25 := Lib.hid (B_24.out.trans (hb.mono B_24.out.size))
    clear hb
    go_wp2
    go_ret
    exact ⟨rfl, B_25.out⟩
end Go.Proofs.Ytneopnlklhcopaa
