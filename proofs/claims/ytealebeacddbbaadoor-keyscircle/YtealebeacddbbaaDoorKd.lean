/- Contract: awake: what every program answers that is one. -/
import Derived.Test.YtealebeacddbbaaDoorKc
namespace Go.Proofs.YtealebeacddbbaaDoor
open Go.RowKit Slices

theorem may_first (l : List Int) (h : l.length = 64) : MayK ⟨1, 1, 1, [⟨1, 1, 0, l⟩]⟩ :=
  ⟨by show (1 : Int) ≤ 1; omega, by show (1 : Int) ≤ 6; omega, by show (1 : Int) ≤ 1; omega, by show (1 : Int) ≤ 8; omega, by show (1 : Int) ≤ 1; omega, by show (1 : Int) ≤ 3; omega, Nat.le_refl 1, by show 1 ≤ 5; omega, fun i hi => by
    have e : i = 0 := by simp at hi; omega
    subst e
    show MayV ⟨1, 1, 0, l⟩ 0
    exact ⟨rfl, by show (1 : Int) ≤ 1; omega, by show (1 : Int) ≤ 4; omega, fun h4 => absurd h4 (by show ¬ (1 : Int) = 4; omega), fun _ => h, fun h3 => absurd h3 (by show ¬ (1 : Int) = 3; omega), fun _ => rfl⟩⟩
theorem may_zero : ¬ MayK key0 := fun m => absurd m.id1 (by decide)

set_option maxRecDepth 100000 in
set_option maxHeartbeats 4000000 in
theorem awake_any (P : KeysOk) (w : World) (hg : Han w) :
    Calls Tryd.prog 6 #[] w fun e w' => e = .returned (.bool true) ∧ Below w.heap.size w w' := by
  have HG := Lib.hid hg
  clear hg
  go_enter Tryd.func6, Tryd.ntmps6
  go_wp2_with fail
  refine (seed_any 1 w).mono ?_
  rintro e w1 ⟨S, l, rfl, hl, hs, hb⟩
  have B1 := Lib.hid hb
  have HS := Lib.hid hs
  have MM := Lib.hid (may_first l hl)
  have hnew := P.new_yes 1 1 1 (some S) 64 l w1 MM.out HS.out (fun e => by cases e) (by rw [hl]; exact Nat.le_refl _)
  rw [hl] at hnew
  obtain ⟨K, hK⟩ : ∃ K : KeyV, K = ⟨1, 1, 1, [⟨1, 1, 0, l⟩]⟩ := ⟨_, rfl⟩
  have M1 : Hid (MayK K) := by rw [hK]; exact MM
  have hn1 : K.vs.length = 1 := by rw [hK]; rfl
  have hv0 : vg K.vs 0 = ⟨1, 1, 0, l⟩ := by rw [hK]; rfl
  rw [← hK] at hnew
  have HN := Lib.hid hnew
  have HV0 := Lib.hid hv0
  have HN1 := Lib.hid hn1
  clear hb hs hl hnew hK hv0 hn1 MM
  go_wp2_with fail
  refine HN.out.mono ?_
  rintro e w2 ⟨A, c, rfl, hr, hb⟩
  have B2 := Lib.hid (below_next B1.out hb)
  have KA := Lib.hid (keyAt_new hr)
  have B3 := Lib.hid (B2.out.alloc B2.out.size (.cells #[.int .i64 K.id, .int .i64 K.ten, .int .i64 K.set, .slice A K.vs.length c] 24))
  clear hb hr HN
  unfold keyVal
  go_wp2_with fail
  generalize hW : World.alloc w2 _ = W2 at KA B3 ⊢
  clear hW
  have hset : SetT K 8 1 0 0 11 key0 := .state ⟨M1.out, by decide, by decide⟩ ⟨by decide, by rw [HN1.out]; decide⟩ (by
    show ¬ From 8 (vg K.vs 0).st
    rw [HV0.out]
    unfold From
    show ¬ ((8 : Int) = 5 ∧ (1 : Int) = 2 ∨ (8 : Int) = 6 ∧ (1 : Int) = 1 ∨ (8 : Int) = 7 ∧ ((1 : Int) = 1 ∨ (1 : Int) = 2) ∨ (8 : Int) = 8 ∧ (1 : Int) = 3)
    omega)
  refine (P.set_state K 8 1 0 0 A c W2 KA.out.rd hset (by unfold I64; omega) (by unfold I64; omega)).mono ?_
  rintro e w3 ⟨A3, c3, v, rfl, _, hv, hb⟩
  have HV := Lib.hid hv
  have B4 := Lib.hid (below_next B3.out hb)
  have KB := Lib.hid (KA.out.next hb)
  clear hb hset hv
  unfold keyVal
  have B5 := Lib.hid (B4.out.alloc B4.out.size (.cells #[.int .i64 key0.id, .int .i64 key0.ten, .int .i64 key0.set, .slice A3 key0.vs.length c3] 24))
  have bx : Below w3.heap.size w3 (w3.alloc (.cells #[.int .i64 key0.id, .int .i64 key0.ten, .int .i64 key0.set, .slice A3 key0.vs.length c3] 24)) := (Below.refl _ _).alloc (Nat.le_refl _) _
  have KC := Lib.hid (KB.out.next bx)
  have HV5 := Lib.hid (HV.out.next bx)
  have k0 := KC.out.c0
  have k1 := KC.out.c1
  have k2 := KC.out.c2
  have k3 := KC.out.c3
  clear bx
  go_wp2_with fail
  generalize hW : World.alloc w3 _ = W3 at B5 KC HV5 k0 k1 k2 k3 ⊢
  clear hW
  refine (P.current_yes K 0 A c W3 KC.out.rd M1.out (by rw [HN1.out]; decide) (by rw [HV0.out]) (fun j h1 h2 => by rw [HN1.out] at h2; omega)).mono ?_
  rw [HV0.out]
  rintro e w4 ⟨S4, m4, c4, rfl, hb⟩
  have B6 := Lib.hid (below_next B5.out hb)
  have HV6 := Lib.hid (HV5.out.next hb)
  have KD := Lib.hid (KC.out.next hb)
  clear hb k0 k1 k2 k3
  have bx : Below w4.heap.size w4 (w4.alloc (.cells #[.int .i64 1, .int .i64 1, .int .i64 0, .slice S4 m4 c4] 30)) := (Below.refl _ _).alloc (Nat.le_refl _) _
  have B7 := Lib.hid (below_next B6.out bx)
  have HV7 := Lib.hid (HV6.out.next bx)
  have KE := Lib.hid (KD.out.next bx)
  have k0 := KE.out.c0
  have k1 := KE.out.c1
  have k2 := KE.out.c2
  have k3 := KE.out.c3
  rw [HN1.out] at k3
  have v0 : (w4.alloc (.cells #[.int .i64 1, .int .i64 1, .int .i64 0, .slice S4 m4 c4] 30)).cell? ⟨w4.heap.size, 0, none⟩ = some (.int .i64 1) := by simp
  clear bx
  go_wp2_with fail
  generalize hW : World.alloc w4 _ = W4 at B7 KE HV7 k0 k1 k2 k3 v0 ⊢
  clear hW
  refine (HV7.out W4 (Below.refl _ _) (Han.below HG.out B7.out)).mono ?_
  rintro e w5 ⟨rfl, hb⟩
  have B8 := Lib.hid (below_next B7.out hb)
  have KF := Lib.hid (KE.out.next hb)
  have v0' := cell_below v0 hb
  have j0 := KF.out.c0
  have j1 := KF.out.c1
  have j2 := KF.out.c2
  have j3 := KF.out.c3
  clear hb k0 k1 k2 k3 v0
  go_wp2_with fail
  refine (P.may K A c w5 KF.out.rd (may_few M1.out) (may_wide M1.out)).mono ?_
  rw [mayKC_yes M1.out]
  rintro e w6 ⟨rfl, hb⟩
  have B9 := Lib.hid (below_next B8.out hb)
  clear hb j0 j1 j2 j3 v0'
  go_wp2_with fail
  refine (P.may key0 none 0 w6 (rdK_zero w6) ⟨by show 0 ≤ 8; omega, fun k hk => by cases hk⟩ ⟨by unfold I64; decide, by unfold I64; decide, by unfold I64; decide, fun k hk => by cases hk⟩).mono ?_
  rw [mayKC_no may_zero]
  rintro e w7 ⟨rfl, hb⟩
  have B10 := Lib.hid (below_next B9.out hb)
  clear hb
  go_wp2
  go_ret
  exact ⟨rfl, B10.out⟩
end Go.Proofs.YtealebeacddbbaaDoor
