/- The law PolyRing, walked. -/
import Derived.Test.YtmjcgkddjgplkaaDoorV
namespace Go.Proofs.YtmjcgkddjgplkaaDoor
open Go.RowKit Slices Go.Proofs.YtmjcgkddjgplkaaDoor.Ring

theorem hasL_two {w : World} {A1 A2 : Option Addr} {c1 c2 : Nat} {l1 l2 : List Int} (h1 : Has w w.heap.size A1 l1) (h2 : Has w w.heap.size A2 l2) :
    HasL (w.alloc (.cells #[.slice A1 l1.length c1, .slice A2 l2.length c2] 22)) (w.alloc (.cells #[.slice A1 l1.length c1, .slice A2 l2.length c2] 22)).heap.size (some ⟨w.heap.size, 0, none⟩) [⟨A1, c1, l1⟩, ⟨A2, c2, l2⟩] := by
  have hb : Below w.heap.size w (w.alloc (.cells #[.slice A1 l1.length c1, .slice A2 l2.length c2] 22)) := (Below.refl _ _).alloc (Nat.le_refl _) _
  have hs : (w.alloc (.cells #[.slice A1 l1.length c1, .slice A2 l2.length c2] 22)).heap.size = w.heap.size + 1 := by simp
  intro k hk
  have hk' : k = 0 ∨ k = 1 := by simp at hk; omega
  have cell : ∀ j, (w.alloc (.cells #[.slice A1 l1.length c1, .slice A2 l2.length c2] 22)).cell? ⟨w.heap.size, j, none⟩ = #[Value.slice A1 l1.length c1, .slice A2 l2.length c2][j]? := fun j => cell_of_row _ _ j _ _ (0, 0) (heap_alloc_new w _)
  rcases hk' with rfl | rfl
  · exact ⟨⟨_, rfl, by rw [hs]; exact Nat.lt_succ_self _, cell 0⟩, has_next h1 hb⟩
  · exact ⟨⟨_, rfl, by rw [hs]; exact Nat.lt_succ_self _, by rw [add_pos _ (by omega)]; exact cell 1⟩, has_next h2 hb⟩
theorem two_le {e1 e2 : Ent} (h1 : e1.l.length ≤ 300) (h2 : e2.l.length ≤ 300) : ∀ i (h : i < [e1, e2].length), [e1, e2][i].l.length ≤ 300 := by
  intro i h
  have : i = 0 ∨ i = 1 := by simp at h; omega
  rcases this with rfl | rfl
  · exact h1
  · exact h2
def DotPost (w : World) (l : List Int) (e : Ending) (w' : World) : Prop := ∃ A c, e = .returned (.slice A l.length c) ∧ Has w' w'.heap.size A l ∧ Below w.heap.size w w'
theorem pDot_two (A1 : Option Addr) (c1 : Nat) (l1 : List Int) (A2 : Option Addr) (c2 : Nat) (l2 : List Int) (A3 : Option Addr) (c3 : Nat) (l3 : List Int) (A4 : Option Addr) (c4 : Nat) (l4 : List Int) (w : World)
    (h1 : Has w w.heap.size A1 l1) (h2 : Has w w.heap.size A2 l2) (h3 : Has w w.heap.size A3 l3) (h4 : Has w w.heap.size A4 l4) (g1 : l1.length ≤ 300) (g2 : l2.length ≤ 300) (g3 : l3.length ≤ 300) (g4 : l4.length ≤ 300) (T : Hid (Tab w) := by first | assumption | exact tab_b (by assumption) (by assumption) | exact tab_d0 (by assumption) | exact tab_d (by assumption) (by assumption)) :
    Calls Tryd.prog 30 #[.slice (some ⟨w.heap.size, 0, none⟩) 2 2, .slice (some ⟨w.heap.size + 1, 0, none⟩) 2 2] ((w.alloc (.cells #[.slice A1 l1.length c1, .slice A2 l2.length c2] 22)).alloc (.cells #[.slice A3 l3.length c3, .slice A4 l4.length c4] 22))
      (DotPost w (dotL [l1, l2] [l3, l4])) := by
  have b1 : Below w.heap.size w (w.alloc (.cells #[.slice A1 l1.length c1, .slice A2 l2.length c2] 22)) := (Below.refl _ _).alloc (Nat.le_refl _) _
  have hs : (w.alloc (.cells #[.slice A1 l1.length c1, .slice A2 l2.length c2] 22)).heap.size = w.heap.size + 1 := by simp
  have e1 := hasL_two (c1 := c1) (c2 := c2) h1 h2
  have e2 := hasL_two (c1 := c3) (c2 := c4) (has_next h3 b1) (has_next h4 b1)
  rw [hs] at e2
  have b2 : Below (w.alloc (.cells #[.slice A1 l1.length c1, .slice A2 l2.length c2] 22)).heap.size (w.alloc (.cells #[.slice A1 l1.length c1, .slice A2 l2.length c2] 22)) ((w.alloc (.cells #[.slice A1 l1.length c1, .slice A2 l2.length c2] 22)).alloc (.cells #[.slice A3 l3.length c3, .slice A4 l4.length c4] 22)) := (Below.refl _ _).alloc (Nat.le_refl _) _
  have bb := b1.trans (b2.mono b1.size)
  refine (pDot_res (some ⟨w.heap.size, 0, none⟩) (some ⟨w.heap.size + 1, 0, none⟩) 2 2 [⟨A1, c1, l1⟩, ⟨A2, c2, l2⟩] [⟨A3, c3, l3⟩, ⟨A4, c4, l4⟩] _ (e1.next b2) e2 (by simp) (by simp) (two_le g1 g2) (two_le g3 g4) (Lib.hid (T.out.next bb))).mono ?_
  rintro e w' ⟨A, c, he, ho, hb⟩
  exact ⟨A, c, he, own_read ho, bb.trans (hb.mono bb.size)⟩

set_option maxRecDepth 100000 in
set_option maxHeartbeats 8000000 in
theorem ring_small (A A' A'' : Option Addr) (c c' c'' : Nat) (ns ms ks : List Int) (w : World) (hf : Has w w.heap.size A ns) (hg : Has w w.heap.size A' ms) (hh : Has w w.heap.size A'' ks) (h1 : ns.length ≤ 300) (h2 : ms.length ≤ 300) (h3 : ks.length ≤ 300) (TB : Hid (Tab w)) :
    Calls Tryd.prog 9 #[.slice A ns.length c, .slice A' ms.length c', .slice A'' ks.length c''] w fun e w' => e = .returned (.bool true) ∧ Below w.heap.size w w' := by
  have Hns_0 := Lib.hid hf
  have Hms_0 := Lib.hid hg
  have Hks_0 := Lib.hid hh
  have B_0 := Lib.hid (Below.refl w.heap.size w)
  clear hf hg hh
  go_enter Tryd.func9, Tryd.ntmps9
  go_wp2_with fail
  refine (lowp_any A c ns w Hns_0.out h1).mono ?_
  rintro e w1 ⟨x1, hp, gx1, cx1, rfl, ho, hb⟩
  have Hms_1 := Lib.hid (has_next Hms_0.out hb)
  have Hks_1 := Lib.hid (has_next Hks_0.out hb)
  have Px1 := Lib.hid hp
  have Hx1_1 := Lib.hid (own_read ho)
  have B_1 := Lib.hid (B_0.out.trans (hb.mono B_0.out.size))
  clear ho hb hp B_0 Hns_0 Hms_0 Hks_0
  go_wp2_with fail
  refine (lowp_any A' c' ms w1 Hms_1.out h2).mono ?_
  rintro e w2 ⟨x2, hp, gx2, cx2, rfl, ho, hb⟩
  have Hks_2 := Lib.hid (has_next Hks_1.out hb)
  have Hx1_2 := Lib.hid (has_next Hx1_1.out hb)
  have Px2 := Lib.hid hp
  have Hx2_2 := Lib.hid (own_read ho)
  have B_2 := Lib.hid (B_1.out.trans (hb.mono B_1.out.size))
  clear ho hb hp B_1 Hms_1 Hks_1 Hx1_1
  go_wp2_with fail
  refine (lowp_any A'' c'' ks w2 Hks_2.out h3).mono ?_
  rintro e w3 ⟨x3, hp, gx3, cx3, rfl, ho, hb⟩
  have Hx1_3 := Lib.hid (has_next Hx1_2.out hb)
  have Hx2_3 := Lib.hid (has_next Hx2_2.out hb)
  have Px3 := Lib.hid hp
  have Hx3_3 := Lib.hid (own_read ho)
  have B_3 := Lib.hid (B_2.out.trans (hb.mono B_2.out.size))
  clear ho hb hp B_2 Hks_2 Hx1_2 Hx2_2
  go_wp2_with fail
  refine (unit_any 0 w3 (by omega)).mono ?_
  rintro e w4 ⟨gx4, cx4, rfl, ho, hb⟩
  have Hx1_4 := Lib.hid (has_next Hx1_3.out hb)
  have Hx2_4 := Lib.hid (has_next Hx2_3.out hb)
  have Hx3_4 := Lib.hid (has_next Hx3_3.out hb)
  have Hx4_4 := Lib.hid (own_read ho)
  have B_4 := Lib.hid (B_3.out.trans (hb.mono B_3.out.size))
  clear ho hb B_3 Hx1_3 Hx2_3 Hx3_3
  go_wp2_with fail
  refine (pOver_res (some ⟨gx4, 0, none⟩) cx4 (unitL 256 0) w4 Hx4_4.out (by rw [(unit_poly 0).1]; omega)).mono ?_
  rintro e w5 ⟨Ax5, cx5, rfl, ho, hb⟩
  have Hx1_5 := Lib.hid (has_next Hx1_4.out hb)
  have Hx2_5 := Lib.hid (has_next Hx2_4.out hb)
  have Hx3_5 := Lib.hid (has_next Hx3_4.out hb)
  have Hx5_5 := Lib.hid (own_read ho)
  have B_5 := Lib.hid (B_4.out.trans (hb.mono B_4.out.size))
  clear ho hb B_4 Hx1_4 Hx2_4 Hx3_4 Hx4_4
  go_wp2_with fail
  refine (pTimes_res (some ⟨gx1, 0, none⟩) (some ⟨gx2, 0, none⟩) cx1 cx2 x1 x2 w5 Hx1_5.out Hx2_5.out (by have := Px1.out.1; omega) (by have := Px2.out.1; omega)).mono ?_
  rintro e w6 ⟨Ax6, cx6, rfl, ho, hb⟩
  have Hx1_6 := Lib.hid (has_next Hx1_5.out hb)
  have Hx2_6 := Lib.hid (has_next Hx2_5.out hb)
  have Hx3_6 := Lib.hid (has_next Hx3_5.out hb)
  have Hx5_6 := Lib.hid (has_next Hx5_5.out hb)
  have Hx6_6 := Lib.hid (own_read ho)
  have B_6 := Lib.hid (B_5.out.trans (hb.mono B_5.out.size))
  clear ho hb B_5 Hx1_5 Hx2_5 Hx3_5 Hx5_5
  go_wp2_with fail
  refine (pTimes_res (some ⟨gx2, 0, none⟩) (some ⟨gx1, 0, none⟩) cx2 cx1 x2 x1 w6 Hx2_6.out Hx1_6.out (by have := Px2.out.1; omega) (by have := Px1.out.1; omega)).mono ?_
  rintro e w7 ⟨Ax7, cx7, rfl, ho, hb⟩
  have Hx1_7 := Lib.hid (has_next Hx1_6.out hb)
  have Hx2_7 := Lib.hid (has_next Hx2_6.out hb)
  have Hx3_7 := Lib.hid (has_next Hx3_6.out hb)
  have Hx5_7 := Lib.hid (has_next Hx5_6.out hb)
  have Hx6_7 := Lib.hid (has_next Hx6_6.out hb)
  have Hx7_7 := Lib.hid (own_read ho)
  have B_7 := Lib.hid (B_6.out.trans (hb.mono B_6.out.size))
  clear ho hb B_6 Hx1_6 Hx2_6 Hx3_6 Hx5_6 Hx6_6
  go_wp2_with fail
  refine (same_eq Ax6 Ax7 cx6 cx7 (two vTimes x1 x2) (two vTimes x2 x1) w7 (times_comm_list Px1.out Px2.out) (by have := two_len vTimes x1 x2; omega) Hx6_7.out Hx7_7.out).mono ?_
  rintro e w8' ⟨rfl, n8, rfl⟩
  obtain ⟨w8, hw⟩ : ∃ v, w7.drewN n8 = v := ⟨_, rfl⟩
  rw [hw]
  have B_8 := Lib.hid (below_drewN B_7.out n8)
  rw [hw] at B_8
  have Hx1_8 := Lib.hid (Hx1_7.out.drewN n8)
  have Hx1_8 : Hid (Has ((w7.drewN n8)) ((w7.drewN n8)).heap.size _ _) := Hx1_8
  rw [hw] at Hx1_8
  have Hx2_8 := Lib.hid (Hx2_7.out.drewN n8)
  have Hx2_8 : Hid (Has ((w7.drewN n8)) ((w7.drewN n8)).heap.size _ _) := Hx2_8
  rw [hw] at Hx2_8
  have Hx3_8 := Lib.hid (Hx3_7.out.drewN n8)
  have Hx3_8 : Hid (Has ((w7.drewN n8)) ((w7.drewN n8)).heap.size _ _) := Hx3_8
  rw [hw] at Hx3_8
  have Hx5_8 := Lib.hid (Hx5_7.out.drewN n8)
  have Hx5_8 : Hid (Has ((w7.drewN n8)) ((w7.drewN n8)).heap.size _ _) := Hx5_8
  rw [hw] at Hx5_8
  clear hw B_7 Hx1_7 Hx2_7 Hx3_7 Hx5_7 Hx6_7 Hx7_7
  go_wp2_with fail
  refine (pTimes_res (some ⟨gx2, 0, none⟩) (some ⟨gx3, 0, none⟩) cx2 cx3 x2 x3 w8 Hx2_8.out Hx3_8.out (by have := Px2.out.1; omega) (by have := Px3.out.1; omega)).mono ?_
  rintro e w9 ⟨Ax9, cx9, rfl, ho, hb⟩
  have Hx1_9 := Lib.hid (has_next Hx1_8.out hb)
  have Hx2_9 := Lib.hid (has_next Hx2_8.out hb)
  have Hx3_9 := Lib.hid (has_next Hx3_8.out hb)
  have Hx5_9 := Lib.hid (has_next Hx5_8.out hb)
  have Hx9_9 := Lib.hid (own_read ho)
  have B_9 := Lib.hid (B_8.out.trans (hb.mono B_8.out.size))
  clear ho hb B_8 Hx1_8 Hx2_8 Hx3_8 Hx5_8
  go_wp2_with fail
  refine (pTimes_res (some ⟨gx1, 0, none⟩) Ax9 cx1 cx9 x1 (two vTimes x2 x3) w9 Hx1_9.out Hx9_9.out (by have := Px1.out.1; omega) (by have := two_len vTimes x2 x3; omega)).mono ?_
  rintro e w10 ⟨Ax10, cx10, rfl, ho, hb⟩
  have Hx1_10 := Lib.hid (has_next Hx1_9.out hb)
  have Hx2_10 := Lib.hid (has_next Hx2_9.out hb)
  have Hx3_10 := Lib.hid (has_next Hx3_9.out hb)
  have Hx5_10 := Lib.hid (has_next Hx5_9.out hb)
  have Hx10_10 := Lib.hid (own_read ho)
  have B_10 := Lib.hid (B_9.out.trans (hb.mono B_9.out.size))
  clear ho hb B_9 Hx1_9 Hx2_9 Hx3_9 Hx5_9 Hx9_9
  go_wp2_with fail
  refine (pTimes_res (some ⟨gx1, 0, none⟩) (some ⟨gx2, 0, none⟩) cx1 cx2 x1 x2 w10 Hx1_10.out Hx2_10.out (by have := Px1.out.1; omega) (by have := Px2.out.1; omega)).mono ?_
  rintro e w11 ⟨Ax11, cx11, rfl, ho, hb⟩
  have Hx1_11 := Lib.hid (has_next Hx1_10.out hb)
  have Hx2_11 := Lib.hid (has_next Hx2_10.out hb)
  have Hx3_11 := Lib.hid (has_next Hx3_10.out hb)
  have Hx5_11 := Lib.hid (has_next Hx5_10.out hb)
  have Hx10_11 := Lib.hid (has_next Hx10_10.out hb)
  have Hx11_11 := Lib.hid (own_read ho)
  have B_11 := Lib.hid (B_10.out.trans (hb.mono B_10.out.size))
  clear ho hb B_10 Hx1_10 Hx2_10 Hx3_10 Hx5_10 Hx10_10
  go_wp2_with fail
  refine (pTimes_res Ax11 (some ⟨gx3, 0, none⟩) cx11 cx3 (two vTimes x1 x2) x3 w11 Hx11_11.out Hx3_11.out (by have := two_len vTimes x1 x2; omega) (by have := Px3.out.1; omega)).mono ?_
  rintro e w12 ⟨Ax12, cx12, rfl, ho, hb⟩
  have Hx1_12 := Lib.hid (has_next Hx1_11.out hb)
  have Hx2_12 := Lib.hid (has_next Hx2_11.out hb)
  have Hx3_12 := Lib.hid (has_next Hx3_11.out hb)
  have Hx5_12 := Lib.hid (has_next Hx5_11.out hb)
  have Hx10_12 := Lib.hid (has_next Hx10_11.out hb)
  have Hx12_12 := Lib.hid (own_read ho)
  have B_12 := Lib.hid (B_11.out.trans (hb.mono B_11.out.size))
  clear ho hb B_11 Hx1_11 Hx2_11 Hx3_11 Hx5_11 Hx10_11 Hx11_11
  go_wp2_with fail
  refine (same_eq Ax10 Ax12 cx10 cx12 (two vTimes x1 (two vTimes x2 x3)) (two vTimes (two vTimes x1 x2) x3) w12 (times_assoc_list Px1.out Px2.out Px3.out) (by have := two_len vTimes x1 (two vTimes x2 x3); omega) Hx10_12.out Hx12_12.out).mono ?_
  rintro e w13' ⟨rfl, n13, rfl⟩
  obtain ⟨w13, hw⟩ : ∃ v, w12.drewN n13 = v := ⟨_, rfl⟩
  rw [hw]
  have B_13 := Lib.hid (below_drewN B_12.out n13)
  rw [hw] at B_13
  have Hx1_13 := Lib.hid (Hx1_12.out.drewN n13)
  have Hx1_13 : Hid (Has ((w12.drewN n13)) ((w12.drewN n13)).heap.size _ _) := Hx1_13
  rw [hw] at Hx1_13
  have Hx2_13 := Lib.hid (Hx2_12.out.drewN n13)
  have Hx2_13 : Hid (Has ((w12.drewN n13)) ((w12.drewN n13)).heap.size _ _) := Hx2_13
  rw [hw] at Hx2_13
  have Hx3_13 := Lib.hid (Hx3_12.out.drewN n13)
  have Hx3_13 : Hid (Has ((w12.drewN n13)) ((w12.drewN n13)).heap.size _ _) := Hx3_13
  rw [hw] at Hx3_13
  have Hx5_13 := Lib.hid (Hx5_12.out.drewN n13)
  have Hx5_13 : Hid (Has ((w12.drewN n13)) ((w12.drewN n13)).heap.size _ _) := Hx5_13
  rw [hw] at Hx5_13
  clear hw B_12 Hx1_12 Hx2_12 Hx3_12 Hx5_12 Hx10_12 Hx12_12
  go_wp2_with fail
  refine (pAdd_res (some ⟨gx2, 0, none⟩) (some ⟨gx3, 0, none⟩) cx2 cx3 x2 x3 w13 Hx2_13.out Hx3_13.out (by have := Px2.out.1; omega) (by have := Px3.out.1; omega)).mono ?_
  rintro e w14 ⟨Ax14, cx14, rfl, ho, hb⟩
  have Hx1_14 := Lib.hid (has_next Hx1_13.out hb)
  have Hx2_14 := Lib.hid (has_next Hx2_13.out hb)
  have Hx3_14 := Lib.hid (has_next Hx3_13.out hb)
  have Hx5_14 := Lib.hid (has_next Hx5_13.out hb)
  have Hx14_14 := Lib.hid (own_read ho)
  have B_14 := Lib.hid (B_13.out.trans (hb.mono B_13.out.size))
  clear ho hb B_13 Hx1_13 Hx2_13 Hx3_13 Hx5_13
  go_wp2_with fail
  refine (pTimes_res (some ⟨gx1, 0, none⟩) Ax14 cx1 cx14 x1 (two vAdd x2 x3) w14 Hx1_14.out Hx14_14.out (by have := Px1.out.1; omega) (by have := two_len vAdd x2 x3; omega)).mono ?_
  rintro e w15 ⟨Ax15, cx15, rfl, ho, hb⟩
  have Hx1_15 := Lib.hid (has_next Hx1_14.out hb)
  have Hx2_15 := Lib.hid (has_next Hx2_14.out hb)
  have Hx3_15 := Lib.hid (has_next Hx3_14.out hb)
  have Hx5_15 := Lib.hid (has_next Hx5_14.out hb)
  have Hx15_15 := Lib.hid (own_read ho)
  have B_15 := Lib.hid (B_14.out.trans (hb.mono B_14.out.size))
  clear ho hb B_14 Hx1_14 Hx2_14 Hx3_14 Hx5_14 Hx14_14
  go_wp2_with fail
  refine (pTimes_res (some ⟨gx1, 0, none⟩) (some ⟨gx2, 0, none⟩) cx1 cx2 x1 x2 w15 Hx1_15.out Hx2_15.out (by have := Px1.out.1; omega) (by have := Px2.out.1; omega)).mono ?_
  rintro e w16 ⟨Ax16, cx16, rfl, ho, hb⟩
  have Hx1_16 := Lib.hid (has_next Hx1_15.out hb)
  have Hx2_16 := Lib.hid (has_next Hx2_15.out hb)
  have Hx3_16 := Lib.hid (has_next Hx3_15.out hb)
  have Hx5_16 := Lib.hid (has_next Hx5_15.out hb)
  have Hx15_16 := Lib.hid (has_next Hx15_15.out hb)
  have Hx16_16 := Lib.hid (own_read ho)
  have B_16 := Lib.hid (B_15.out.trans (hb.mono B_15.out.size))
  clear ho hb B_15 Hx1_15 Hx2_15 Hx3_15 Hx5_15 Hx15_15
  go_wp2_with fail
  refine (pTimes_res (some ⟨gx1, 0, none⟩) (some ⟨gx3, 0, none⟩) cx1 cx3 x1 x3 w16 Hx1_16.out Hx3_16.out (by have := Px1.out.1; omega) (by have := Px3.out.1; omega)).mono ?_
  rintro e w17 ⟨Ax17, cx17, rfl, ho, hb⟩
  have Hx1_17 := Lib.hid (has_next Hx1_16.out hb)
  have Hx2_17 := Lib.hid (has_next Hx2_16.out hb)
  have Hx3_17 := Lib.hid (has_next Hx3_16.out hb)
  have Hx5_17 := Lib.hid (has_next Hx5_16.out hb)
  have Hx15_17 := Lib.hid (has_next Hx15_16.out hb)
  have Hx16_17 := Lib.hid (has_next Hx16_16.out hb)
  have Hx17_17 := Lib.hid (own_read ho)
  have B_17 := Lib.hid (B_16.out.trans (hb.mono B_16.out.size))
  clear ho hb B_16 Hx1_16 Hx2_16 Hx3_16 Hx5_16 Hx15_16 Hx16_16
  go_wp2_with fail
  refine (pAdd_res Ax16 Ax17 cx16 cx17 (two vTimes x1 x2) (two vTimes x1 x3) w17 Hx16_17.out Hx17_17.out (by have := two_len vTimes x1 x2; omega) (by have := two_len vTimes x1 x3; omega)).mono ?_
  rintro e w18 ⟨Ax18, cx18, rfl, ho, hb⟩
  have Hx1_18 := Lib.hid (has_next Hx1_17.out hb)
  have Hx2_18 := Lib.hid (has_next Hx2_17.out hb)
  have Hx3_18 := Lib.hid (has_next Hx3_17.out hb)
  have Hx5_18 := Lib.hid (has_next Hx5_17.out hb)
  have Hx15_18 := Lib.hid (has_next Hx15_17.out hb)
  have Hx18_18 := Lib.hid (own_read ho)
  have B_18 := Lib.hid (B_17.out.trans (hb.mono B_17.out.size))
  clear ho hb B_17 Hx1_17 Hx2_17 Hx3_17 Hx5_17 Hx15_17 Hx16_17 Hx17_17
  go_wp2_with fail
  refine (same_eq Ax15 Ax18 cx15 cx18 (two vTimes x1 (two vAdd x2 x3)) (two vAdd (two vTimes x1 x2) (two vTimes x1 x3)) w18 (times_add_list Px1.out Px2.out Px3.out) (by have := two_len vTimes x1 (two vAdd x2 x3); omega) Hx15_18.out Hx18_18.out).mono ?_
  rintro e w19' ⟨rfl, n19, rfl⟩
  obtain ⟨w19, hw⟩ : ∃ v, w18.drewN n19 = v := ⟨_, rfl⟩
  rw [hw]
  have B_19 := Lib.hid (below_drewN B_18.out n19)
  rw [hw] at B_19
  have Hx1_19 := Lib.hid (Hx1_18.out.drewN n19)
  have Hx1_19 : Hid (Has ((w18.drewN n19)) ((w18.drewN n19)).heap.size _ _) := Hx1_19
  rw [hw] at Hx1_19
  have Hx2_19 := Lib.hid (Hx2_18.out.drewN n19)
  have Hx2_19 : Hid (Has ((w18.drewN n19)) ((w18.drewN n19)).heap.size _ _) := Hx2_19
  rw [hw] at Hx2_19
  have Hx3_19 := Lib.hid (Hx3_18.out.drewN n19)
  have Hx3_19 : Hid (Has ((w18.drewN n19)) ((w18.drewN n19)).heap.size _ _) := Hx3_19
  rw [hw] at Hx3_19
  have Hx5_19 := Lib.hid (Hx5_18.out.drewN n19)
  have Hx5_19 : Hid (Has ((w18.drewN n19)) ((w18.drewN n19)).heap.size _ _) := Hx5_19
  rw [hw] at Hx5_19
  clear hw B_18 Hx1_18 Hx2_18 Hx3_18 Hx5_18 Hx15_18 Hx18_18
  go_wp2_with fail
  refine (pTimes_res (some ⟨gx1, 0, none⟩) Ax5 cx1 cx5 x1 (one vOver (unitL 256 0)) w19 Hx1_19.out Hx5_19.out (by have := Px1.out.1; omega) (by have := one_len vOver (unitL 256 0); omega)).mono ?_
  rintro e w20 ⟨Ax20, cx20, rfl, ho, hb⟩
  have Hx1_20 := Lib.hid (has_next Hx1_19.out hb)
  have Hx2_20 := Lib.hid (has_next Hx2_19.out hb)
  have Hx3_20 := Lib.hid (has_next Hx3_19.out hb)
  have Hx20_20 := Lib.hid (own_read ho)
  have B_20 := Lib.hid (B_19.out.trans (hb.mono B_19.out.size))
  clear ho hb B_19 Hx1_19 Hx2_19 Hx3_19 Hx5_19
  go_wp2_with fail
  refine (same_eq Ax20 (some ⟨gx1, 0, none⟩) cx20 cx1 (two vTimes x1 (one vOver (unitL 256 0))) x1 w20 (times_one_list Px1.out) (by have := two_len vTimes x1 (one vOver (unitL 256 0)); omega) Hx20_20.out Hx1_20.out).mono ?_
  rintro e w21' ⟨rfl, n21, rfl⟩
  obtain ⟨w21, hw⟩ : ∃ v, w20.drewN n21 = v := ⟨_, rfl⟩
  rw [hw]
  have B_21 := Lib.hid (below_drewN B_20.out n21)
  rw [hw] at B_21
  have Hx1_21 := Lib.hid (Hx1_20.out.drewN n21)
  have Hx1_21 : Hid (Has ((w20.drewN n21)) ((w20.drewN n21)).heap.size _ _) := Hx1_21
  rw [hw] at Hx1_21
  have Hx2_21 := Lib.hid (Hx2_20.out.drewN n21)
  have Hx2_21 : Hid (Has ((w20.drewN n21)) ((w20.drewN n21)).heap.size _ _) := Hx2_21
  rw [hw] at Hx2_21
  have Hx3_21 := Lib.hid (Hx3_20.out.drewN n21)
  have Hx3_21 : Hid (Has ((w20.drewN n21)) ((w20.drewN n21)).heap.size _ _) := Hx3_21
  rw [hw] at Hx3_21
  clear hw B_20 Hx1_20 Hx2_20 Hx3_20 Hx20_20
  go_wp2_with fail
  refine (pDot_two (some ⟨gx1, 0, none⟩) cx1 x1 (some ⟨gx2, 0, none⟩) cx2 x2 (some ⟨gx3, 0, none⟩) cx3 x3 (some ⟨gx3, 0, none⟩) cx3 x3 w21 Hx1_21.out Hx2_21.out Hx3_21.out Hx3_21.out (by have := Px1.out.1; omega) (by have := Px2.out.1; omega) (by have := Px3.out.1; omega) (by have := Px3.out.1; omega)).mono ?_
  rintro e w22 ⟨Ax22, cx22, rfl, ho, hb⟩
  have Hx1_22 := Lib.hid (has_next Hx1_21.out hb)
  have Hx2_22 := Lib.hid (has_next Hx2_21.out hb)
  have Hx3_22 := Lib.hid (has_next Hx3_21.out hb)
  have Hx22_22 := Lib.hid ho
  have B_22 := Lib.hid (B_21.out.trans (hb.mono B_21.out.size))
  clear ho hb B_21 Hx1_21 Hx2_21 Hx3_21
  go_wp2_with fail
  refine (pAdd_res (some ⟨gx1, 0, none⟩) (some ⟨gx2, 0, none⟩) cx1 cx2 x1 x2 w22 Hx1_22.out Hx2_22.out (by have := Px1.out.1; omega) (by have := Px2.out.1; omega)).mono ?_
  rintro e w23 ⟨Ax23, cx23, rfl, ho, hb⟩
  have Hx3_23 := Lib.hid (has_next Hx3_22.out hb)
  have Hx22_23 := Lib.hid (has_next Hx22_22.out hb)
  have Hx23_23 := Lib.hid (own_read ho)
  have B_23 := Lib.hid (B_22.out.trans (hb.mono B_22.out.size))
  clear ho hb B_22 Hx1_22 Hx2_22 Hx3_22 Hx22_22
  go_wp2_with fail
  refine (pTimes_res Ax23 (some ⟨gx3, 0, none⟩) cx23 cx3 (two vAdd x1 x2) x3 w23 Hx23_23.out Hx3_23.out (by have := two_len vAdd x1 x2; omega) (by have := Px3.out.1; omega)).mono ?_
  rintro e w24 ⟨Ax24, cx24, rfl, ho, hb⟩
  have Hx22_24 := Lib.hid (has_next Hx22_23.out hb)
  have Hx24_24 := Lib.hid (own_read ho)
  have B_24 := Lib.hid (B_23.out.trans (hb.mono B_23.out.size))
  clear ho hb B_23 Hx3_23 Hx22_23 Hx23_23
  go_wp2_with fail
  refine (same_eq Ax22 Ax24 cx22 cx24 (dotL [x1, x2] [x3, x3]) (two vTimes (two vAdd x1 x2) x3) w24 (dot_two Px1.out Px2.out Px3.out) (by have := dot_len [x1, x2] [x3, x3]; omega) Hx22_24.out Hx24_24.out).mono ?_
  rintro e w25' ⟨rfl, n25, rfl⟩
  obtain ⟨w25, hw⟩ : ∃ v, w24.drewN n25 = v := ⟨_, rfl⟩
  rw [hw]
  have B_25 := Lib.hid (below_drewN B_24.out n25)
  rw [hw] at B_25
  clear hw B_24 Hx22_24 Hx24_24
  go_wp2_with fail
  refine (awake_any w25).mono ?_
  rintro e w26 ⟨rfl, hb⟩
  have B_26 := Lib.hid (B_25.out.trans (hb.mono B_25.out.size))
  clear hb
  go_wp2
  go_ret
  exact ⟨rfl, B_26.out⟩
end Go.Proofs.YtmjcgkddjgplkaaDoor
