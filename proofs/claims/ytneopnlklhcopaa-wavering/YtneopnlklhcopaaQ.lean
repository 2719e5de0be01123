/- The law WaveBack, walked. -/
import Derived.Test.YtneopnlklhcopaaO
namespace Go.Proofs.Ytneopnlklhcopaa
open Go.RowKit Slices Go.Proofs.Ytneopnlklhcopaa.Ring

theorem same_eq (A A' : Option Addr) (c c' : Nat) (l l' : List Int) (w : World) (he : l = l') (hl : l.length ≤ 300) (h : Has w w.heap.size A l) (h' : Has w w.heap.size A' l') :
    Calls Try.prog 18 #[.slice A l.length c, .slice A' l'.length c'] w fun e w' => e = .returned (.bool true) ∧ ∃ n, w' = w.drewN n := by
  subst he
  exact same_true A A' c c' w.heap.size l w (big hl) h h'
theorem unit_as {x : Int} (i : Nat) (w : World) (hx : x = i) (hi : i < 256) : Calls Try.prog 38 #[.int .i64 x] w (Gives w (unitL 256 i)) := by
  subst hx; exact unit_any i w hi
theorem low_as {x n v : Int} (hv : v = low x n) (w : World) (h0 : 1 ≤ n) (h1 : n ≤ 4611686018427387904) :
    Calls Try.prog 33 #[.int .i64 x, .int .i64 n] w fun e w' => e = .returned (.int .i64 v) ∧ w = w' := by
  rw [hv]; exact low_any x n w h0 h1
theorem low_nat (x : Int) (m : Nat) (h : 1 ≤ m) : ∃ n : Nat, (n : Int) = low x m ∧ n < m := by
  have l0 : 0 ≤ low x m := Int.emod_nonneg _ (by omega)
  have l1 : low x m < m := Int.emod_lt_of_pos _ (by omega)
  exact ⟨(low x m).toNat, by omega, by omega⟩
theorem pSub_len (A A' : Option Addr) (c c' : Nat) (l m : List Int) (n : Nat) (w : World) (hn : l.length = n) (h : Has w w.heap.size A l) (h' : Has w w.heap.size A' m) (hl : l.length ≤ 300) (hm : m.length ≤ 300) :
    Calls Try.prog 14 #[.slice A n c, .slice A' m.length c'] w (Res w (two vSub l m)) := by
  subst hn; exact pSub_res A A' c c' l m w h h' hl hm

set_option maxRecDepth 100000 in
set_option maxHeartbeats 8000000 in
theorem back_small (A A' : Option Addr) (c c' : Nat) (ns ms : List Int) (w : World) (hf : Has w w.heap.size A ns) (hg : Has w w.heap.size A' ms) (h1 : ns.length ≤ 300) (h2 : ms.length ≤ 300) (TB : Hid (Tab w)) :
    Calls Try.prog 6 #[.slice A ns.length c, .slice A' ms.length c'] w fun e w' => e = .returned (.bool true) ∧ Below w.heap.size w w' := by
  have Hns_0 := Lib.hid hf
  have Hms_0 := Lib.hid hg
  have B_0 := Lib.hid (Below.refl w.heap.size w)
  clear hf hg
  go_enter Try.func6, Try.ntmps6
  go_wp2_with fail
  refine (lowp_any A c ns w Hns_0.out h1).mono ?_
  rintro e w1 ⟨x1, hp, gx1, cx1, rfl, ho, hb⟩
  have Hms_1 := Lib.hid (has_next Hms_0.out hb)
  have Px1 := Lib.hid hp
  have Hx1_1 := Lib.hid (own_read ho)
  have B_1 := Lib.hid (B_0.out.trans (hb.mono B_0.out.size))
  clear ho hb hp B_0 Hns_0 Hms_0
  go_wp2_with fail
  refine (lowp_any A' c' ms w1 Hms_1.out h2).mono ?_
  rintro e w2 ⟨x2, hp, gx2, cx2, rfl, ho, hb⟩
  have Hx1_2 := Lib.hid (has_next Hx1_1.out hb)
  have Px2 := Lib.hid hp
  have Hx2_2 := Lib.hid (own_read ho)
  have B_2 := Lib.hid (B_1.out.trans (hb.mono B_1.out.size))
  clear ho hb hp B_1 Hms_1 Hx1_1
  go_wp2_with fail
  refine (pOver_res (some ⟨gx1, 0, none⟩) cx1 x1 w2 Hx1_2.out (by have := Px1.out.1; omega)).mono ?_
  rintro e w3 ⟨Ax3, cx3, rfl, ho, hb⟩
  have Hx1_3 := Lib.hid (has_next Hx1_2.out hb)
  have Hx2_3 := Lib.hid (has_next Hx2_2.out hb)
  have Hx3_3 := Lib.hid (own_read ho)
  have B_3 := Lib.hid (B_2.out.trans (hb.mono B_2.out.size))
  clear ho hb B_2 Hx1_2 Hx2_2
  go_wp2_with fail
  refine (pOver_res (some ⟨gx2, 0, none⟩) cx2 x2 w3 Hx2_3.out (by have := Px2.out.1; omega)).mono ?_
  rintro e w4 ⟨Ax4, cx4, rfl, ho, hb⟩
  have Hx1_4 := Lib.hid (has_next Hx1_3.out hb)
  have Hx2_4 := Lib.hid (has_next Hx2_3.out hb)
  have Hx3_4 := Lib.hid (has_next Hx3_3.out hb)
  have Hx4_4 := Lib.hid (own_read ho)
  have B_4 := Lib.hid (B_3.out.trans (hb.mono B_3.out.size))
  clear ho hb B_3 Hx1_3 Hx2_3 Hx3_3
  go_wp2_with fail
  refine (pBack_res Ax3 cx3 (one vOver x1) w4 Hx3_4.out (by have := one_len vOver x1; omega)).mono ?_
  rintro e w5 ⟨Ax5, cx5, rfl, ho, hb⟩
  have Hx1_5 := Lib.hid (has_next Hx1_4.out hb)
  have Hx2_5 := Lib.hid (has_next Hx2_4.out hb)
  have Hx3_5 := Lib.hid (has_next Hx3_4.out hb)
  have Hx4_5 := Lib.hid (has_next Hx4_4.out hb)
  have Hx5_5 := Lib.hid (own_read ho)
  have B_5 := Lib.hid (B_4.out.trans (hb.mono B_4.out.size))
  clear ho hb B_4 Hx1_4 Hx2_4 Hx3_4 Hx4_4
  go_wp2_with fail
  refine (same_eq Ax5 (some ⟨gx1, 0, none⟩) cx5 cx1 (one vBack (one vOver x1)) x1 w5 (back_over_list Px1.out) (by have := one_len vBack (one vOver x1); omega) Hx5_5.out Hx1_5.out).mono ?_
  rintro e w6' ⟨rfl, n6, rfl⟩
  obtain ⟨w6, hw⟩ : ∃ v, w5.drewN n6 = v := ⟨_, rfl⟩
  rw [hw]
  have B_6 := Lib.hid (below_drewN B_5.out n6)
  rw [hw] at B_6
  have Hx1_6 := Lib.hid (Hx1_5.out.drewN n6)
  have Hx1_6 : Hid (Has ((w5.drewN n6)) ((w5.drewN n6)).heap.size _ _) := Hx1_6
  rw [hw] at Hx1_6
  have Hx2_6 := Lib.hid (Hx2_5.out.drewN n6)
  have Hx2_6 : Hid (Has ((w5.drewN n6)) ((w5.drewN n6)).heap.size _ _) := Hx2_6
  rw [hw] at Hx2_6
  have Hx3_6 := Lib.hid (Hx3_5.out.drewN n6)
  have Hx3_6 : Hid (Has ((w5.drewN n6)) ((w5.drewN n6)).heap.size _ _) := Hx3_6
  rw [hw] at Hx3_6
  have Hx4_6 := Lib.hid (Hx4_5.out.drewN n6)
  have Hx4_6 : Hid (Has ((w5.drewN n6)) ((w5.drewN n6)).heap.size _ _) := Hx4_6
  rw [hw] at Hx4_6
  clear hw B_5 Hx1_5 Hx2_5 Hx3_5 Hx4_5 Hx5_5
  go_wp2_with fail
  refine (pBack_res (some ⟨gx1, 0, none⟩) cx1 x1 w6 Hx1_6.out (by have := Px1.out.1; omega)).mono ?_
  rintro e w7 ⟨Ax7, cx7, rfl, ho, hb⟩
  have Hx1_7 := Lib.hid (has_next Hx1_6.out hb)
  have Hx2_7 := Lib.hid (has_next Hx2_6.out hb)
  have Hx3_7 := Lib.hid (has_next Hx3_6.out hb)
  have Hx4_7 := Lib.hid (has_next Hx4_6.out hb)
  have Hx7_7 := Lib.hid (own_read ho)
  have B_7 := Lib.hid (B_6.out.trans (hb.mono B_6.out.size))
  clear ho hb B_6 Hx1_6 Hx2_6 Hx3_6 Hx4_6
  go_wp2_with fail
  refine (pOver_res Ax7 cx7 (one vBack x1) w7 Hx7_7.out (by have := one_len vBack x1; omega)).mono ?_
  rintro e w8 ⟨Ax8, cx8, rfl, ho, hb⟩
  have Hx1_8 := Lib.hid (has_next Hx1_7.out hb)
  have Hx2_8 := Lib.hid (has_next Hx2_7.out hb)
  have Hx3_8 := Lib.hid (has_next Hx3_7.out hb)
  have Hx4_8 := Lib.hid (has_next Hx4_7.out hb)
  have Hx8_8 := Lib.hid (own_read ho)
  have B_8 := Lib.hid (B_7.out.trans (hb.mono B_7.out.size))
  clear ho hb B_7 Hx1_7 Hx2_7 Hx3_7 Hx4_7 Hx7_7
  go_wp2_with fail
  refine (same_eq Ax8 (some ⟨gx1, 0, none⟩) cx8 cx1 (one vOver (one vBack x1)) x1 w8 (over_back_list Px1.out) (by have := one_len vOver (one vBack x1); omega) Hx8_8.out Hx1_8.out).mono ?_
  rintro e w9' ⟨rfl, n9, rfl⟩
  obtain ⟨w9, hw⟩ : ∃ v, w8.drewN n9 = v := ⟨_, rfl⟩
  rw [hw]
  have B_9 := Lib.hid (below_drewN B_8.out n9)
  rw [hw] at B_9
  have Hx1_9 := Lib.hid (Hx1_8.out.drewN n9)
  have Hx1_9 : Hid (Has ((w8.drewN n9)) ((w8.drewN n9)).heap.size _ _) := Hx1_9
  rw [hw] at Hx1_9
  have Hx2_9 := Lib.hid (Hx2_8.out.drewN n9)
  have Hx2_9 : Hid (Has ((w8.drewN n9)) ((w8.drewN n9)).heap.size _ _) := Hx2_9
  rw [hw] at Hx2_9
  have Hx3_9 := Lib.hid (Hx3_8.out.drewN n9)
  have Hx3_9 : Hid (Has ((w8.drewN n9)) ((w8.drewN n9)).heap.size _ _) := Hx3_9
  rw [hw] at Hx3_9
  have Hx4_9 := Lib.hid (Hx4_8.out.drewN n9)
  have Hx4_9 : Hid (Has ((w8.drewN n9)) ((w8.drewN n9)).heap.size _ _) := Hx4_9
  rw [hw] at Hx4_9
  clear hw B_8 Hx1_8 Hx2_8 Hx3_8 Hx4_8 Hx8_8
  go_wp2_with fail
  refine (pAdd_res (some ⟨gx1, 0, none⟩) (some ⟨gx2, 0, none⟩) cx1 cx2 x1 x2 w9 Hx1_9.out Hx2_9.out (by have := Px1.out.1; omega) (by have := Px2.out.1; omega)).mono ?_
  rintro e w10 ⟨Ax10, cx10, rfl, ho, hb⟩
  have Hx1_10 := Lib.hid (has_next Hx1_9.out hb)
  have Hx2_10 := Lib.hid (has_next Hx2_9.out hb)
  have Hx3_10 := Lib.hid (has_next Hx3_9.out hb)
  have Hx4_10 := Lib.hid (has_next Hx4_9.out hb)
  have Hx10_10 := Lib.hid (own_read ho)
  have B_10 := Lib.hid (B_9.out.trans (hb.mono B_9.out.size))
  clear ho hb B_9 Hx1_9 Hx2_9 Hx3_9 Hx4_9
  go_wp2_with fail
  refine (pOver_res Ax10 cx10 (two vAdd x1 x2) w10 Hx10_10.out (by have := two_len vAdd x1 x2; omega)).mono ?_
  rintro e w11 ⟨Ax11, cx11, rfl, ho, hb⟩
  have Hx1_11 := Lib.hid (has_next Hx1_10.out hb)
  have Hx2_11 := Lib.hid (has_next Hx2_10.out hb)
  have Hx3_11 := Lib.hid (has_next Hx3_10.out hb)
  have Hx4_11 := Lib.hid (has_next Hx4_10.out hb)
  have Hx11_11 := Lib.hid (own_read ho)
  have B_11 := Lib.hid (B_10.out.trans (hb.mono B_10.out.size))
  clear ho hb B_10 Hx1_10 Hx2_10 Hx3_10 Hx4_10 Hx10_10
  go_wp2_with fail
  refine (pAdd_res Ax3 Ax4 cx3 cx4 (one vOver x1) (one vOver x2) w11 Hx3_11.out Hx4_11.out (by have := one_len vOver x1; omega) (by have := one_len vOver x2; omega)).mono ?_
  rintro e w12 ⟨Ax12, cx12, rfl, ho, hb⟩
  have Hx1_12 := Lib.hid (has_next Hx1_11.out hb)
  have Hx2_12 := Lib.hid (has_next Hx2_11.out hb)
  have Hx11_12 := Lib.hid (has_next Hx11_11.out hb)
  have Hx12_12 := Lib.hid (own_read ho)
  have B_12 := Lib.hid (B_11.out.trans (hb.mono B_11.out.size))
  clear ho hb B_11 Hx1_11 Hx2_11 Hx3_11 Hx4_11 Hx11_11
  go_wp2_with fail
  refine (same_eq Ax11 Ax12 cx11 cx12 (one vOver (two vAdd x1 x2)) (two vAdd (one vOver x1) (one vOver x2)) w12 (over_add_list Px1.out Px2.out) (by have := one_len vOver (two vAdd x1 x2); omega) Hx11_12.out Hx12_12.out).mono ?_
  rintro e w13' ⟨rfl, n13, rfl⟩
  obtain ⟨w13, hw⟩ : ∃ v, w12.drewN n13 = v := ⟨_, rfl⟩
  rw [hw]
  have B_13 := Lib.hid (below_drewN B_12.out n13)
  rw [hw] at B_13
  have Hx1_13 := Lib.hid (Hx1_12.out.drewN n13)
  have Hx1_13 : Hid (Has ((w12.drewN n13)) ((w12.drewN n13)).heap.size _ _) := Hx1_13
  rw [hw] at Hx1_13
  have Hx2_13 := Lib.hid (Hx2_12.out.drewN n13)
  have Hx2_13 : Hid (Has ((w12.drewN n13)) ((w12.drewN n13)).heap.size _ _) := Hx2_13
  rw [hw] at Hx2_13
  clear hw B_12 Hx1_12 Hx2_12 Hx11_12 Hx12_12
  go_wp2_with fail
  refine (pAdd_res (some ⟨gx1, 0, none⟩) (some ⟨gx2, 0, none⟩) cx1 cx2 x1 x2 w13 Hx1_13.out Hx2_13.out (by have := Px1.out.1; omega) (by have := Px2.out.1; omega)).mono ?_
  rintro e w14 ⟨Ax14, cx14, rfl, ho, hb⟩
  have Hx1_14 := Lib.hid (has_next Hx1_13.out hb)
  have Hx2_14 := Lib.hid (has_next Hx2_13.out hb)
  have Hx14_14 := Lib.hid (own_read ho)
  have B_14 := Lib.hid (B_13.out.trans (hb.mono B_13.out.size))
  clear ho hb B_13 Hx1_13 Hx2_13
  have hle := norm_add_list Px1.out Px2.out
  obtain ⟨a0, a1⟩ := normL_bd [x1]
  obtain ⟨b0, b1⟩ := normL_bd [x2]
  obtain ⟨na, hna⟩ : ∃ v, normL [x1] = v := ⟨_, rfl⟩
  obtain ⟨nb, hnb⟩ : ∃ v, normL [x2] = v := ⟨_, rfl⟩
  obtain ⟨nc, hnc⟩ : ∃ v, normL [two vAdd x1 x2] = v := ⟨_, rfl⟩
  rw [hna] at a0 a1 hle
  rw [hnb] at b0 b1 hle
  rw [hnc] at hle
  have HNA := Lib.hid hna
  have HNB := Lib.hid hnb
  have HNC := Lib.hid hnc
  clear hna hnb hnc
  go_wp2_with fail
  refine (pNorm_one Ax14 cx14 _ (two vAdd x1 x2) w14 rfl Hx14_14.out (by have := two_len vAdd x1 x2; omega)).mono ?_
  rw [HNC.out]
  rintro e w15 ⟨rfl, hb⟩
  have Hx1_15 := Lib.hid (has_next Hx1_14.out hb)
  have Hx2_15 := Lib.hid (has_next Hx2_14.out hb)
  have B_15 := Lib.hid (B_14.out.trans (hb.mono B_14.out.size))
  clear hb B_14 Hx1_14 Hx2_14 Hx14_14
  go_wp2_with fail
  refine (pNorm_one (some ⟨gx1, 0, none⟩) cx1 _ x1 w15 rfl Hx1_15.out (by have := Px1.out.1; omega)).mono ?_
  rw [HNA.out]
  rintro e w16 ⟨rfl, hb⟩
  have Hx2_16 := Lib.hid (has_next Hx2_15.out hb)
  have B_16 := Lib.hid (B_15.out.trans (hb.mono B_15.out.size))
  clear hb B_15 Hx1_15 Hx2_15
  go_wp2_with fail
  refine (pNorm_one (some ⟨gx2, 0, none⟩) cx2 _ x2 w16 rfl Hx2_16.out (by have := Px2.out.1; omega)).mono ?_
  rw [HNB.out]
  rintro e w17 ⟨rfl, hb⟩
  have B_17 := Lib.hid (B_16.out.trans (hb.mono B_16.out.size))
  clear hb B_16 Hx2_16
  go_wp2_with fail
  refine (awake_any w17).mono ?_
  rintro e w18 ⟨rfl, hb⟩
  have B_18 := Lib.hid (B_17.out.trans (hb.mono B_17.out.size))
  clear hb
  go_wp2
  go_ret
  exact ⟨rfl, B_18.out⟩
end Go.Proofs.Ytneopnlklhcopaa
