/- Contract: the document's own products. -/
import Derived.Test.YtmjcgkddjgplkaaDoorF
import Derived.Test.YtmjcgkddjgplkaaDoorPolyE
namespace Go.Proofs.YtmjcgkddjgplkaaDoor
open Go.RowKit Slices Go.Proofs.YtmjcgkddjgplkaaDoor.Ring

theorem add_pos (a : Addr) {n : Nat} (h : 0 < n) : a.add n = { block := a.block, off := a.off + n } := by unfold Addr.add; rw [if_neg (by omega)]
theorem own_drewN {w : World} {base : Nat} {v : Value} {n : Nat} {xs : List Value} (h : w.ownsRow base 3 1 v n xs) (j : Nat) : (w.drewN j).ownsRow base 3 1 v n xs := h
theorem ints_two (l : List Int) (x y : Int) : ints (l ++ [x] ++ [y]) = ints l ++ [.int .i64 x, .int .i64 y] := by unfold ints; rw [List.map_append, List.map_append, List.append_assoc]; rfl
theorem Part.next2 {w wq w2 w3 : World} {f : V} {k gg cap : Nat} {u : Value} {x y : Int} (hB : Below w.heap.size w wq) (hu : w2.ownsRow w.heap.size 3 1 u (2 * k) (ints ((toL f).take (2 * k))))
    (h3 : w3.ownsRow w.heap.size 3 1 (.slice (some ⟨gg, 0, none⟩) (2 * k + 2) cap) (2 * k + 2) (ints ((toL f).take (2 * k)) ++ [.int .i64 x, .int .i64 y])) (hg : wq.grownBy w3 u.ownBlock) (hk : 2 * k + 1 < 256)
    (ox : okN x) (hx : phi x = f (2 * k)) (oy : okN y) (hy : phi y = f (2 * k + 1)) : Part w f (2 * (k + 1)) (.slice (some ⟨gg, 0, none⟩) (2 * k + 2) cap) w3 := by
  refine ⟨?_, hB.grown hg hB.size fun j hj => (hu.lt j hj).1⟩
  rw [show 2 * (k + 1) = 2 * k + 1 + 1 by omega, toL_take_succ f hk oy hy, toL_take_succ f (by omega) ox hx, ints_two]; exact h3

set_option maxRecDepth 100000 in
set_option maxHeartbeats 2000000 in
theorem refTimes_yes (A A' : Option Addr) (c c' : Nat) (l m : List Int) (w : World) (h : Has w w.heap.size A l) (h' : Has w w.heap.size A' m) (hp : IsPoly l) (hq : IsPoly m) :
    Calls Tryd.prog 23 #[.slice A l.length c, .slice A' m.length c'] w (Gives w (toL (vTimes (vec l) (vec m)))) := by
  obtain ⟨i0, hi0, hz0, hz1, hz2⟩ := info_parts Tryd.info3
  have n0 : l.length ≤ 256 := by rw [hp.1]; exact Nat.le_refl _
  have n1 : 256 ≤ l.length := by rw [hp.1]; exact Nat.le_refl _
  have k0 : m.length ≤ 256 := by rw [hq.1]; exact Nat.le_refl _
  have k1 : 256 ≤ m.length := by rw [hq.1]; exact Nat.le_refl _
  have HP := Lib.hid hp
  have HQ := Lib.hid hq
  have H := Lib.hid h
  have H' := Lib.hid h'
  clear h hp hq h'
  go_enter Tryd.func23, Tryd.ntmps23
  go_wp2_with (first
    | (go_at_call 25; (first | (with_reducible refine (may_yes _ _ _ l _ H.out HP.out).mono ?_) | (with_reducible refine (may_yes _ _ _ l _ (H.out.drewN _) HP.out).mono ?_) | (with_reducible refine (may_yes _ _ _ m _ (H'.out.drewN _) HQ.out).mono ?_)); rintro e w' ⟨rfl, n, rfl⟩))
  go_loopw [5, 6] (fun v i wr => ∃ k : Nat, k ≤ 128 ∧ i = .int .i64 k ∧ Part w (vTimes (vec l) (vec m)) (2 * k) v wr) (fun _ i _ => 128 - (intOf i).toNat)
  case atStart => exact ⟨0, by omega, rfl, World.ownsRow_nil _ _ _ _, below_drewN (Below.refl _ _) _⟩
  case round =>
    obtain ⟨k, hk, rfl, hr⟩ := hrel
    have HR := Lib.hid hr
    clear hr
    by_cases hlt : k < 128
    · have bk : decide ((k : Int) < 128) = true := by rw [decide_eq_true_iff]; omega
      have hw := H.out.below HR.out.2
      have hw' := H'.out.below HR.out.2
      have HW := Lib.hid hw
      have HW' := Lib.hid hw'
      clear hw hw'
      obtain ⟨a, rfl, hab, ha⟩ := HW.out (2 * k) (by omega)
      obtain ⟨_, e, _, hb⟩ := HW.out (2 * k + 1) (by omega)
      injection e with e
      subst e
      obtain ⟨a', rfl, hab', hc⟩ := HW'.out (2 * k) (by omega)
      obtain ⟨_, e, _, hd⟩ := HW'.out (2 * k + 1) (by omega)
      injection e with e
      subst e
      obtain ⟨p0, p1⟩ := HP.out.2 (2 * k) (by omega)
      obtain ⟨p2, p3⟩ := HP.out.2 (2 * k + 1) (by omega)
      obtain ⟨p4, p5⟩ := HQ.out.2 (2 * k) (by omega)
      obtain ⟨p6, p7⟩ := HQ.out.2 (2 * k + 1) (by omega)
      have HE := Lib.hid (times_even (vec l) (vec m) k (a := l.getD (2 * k) 0) (b := l.getD (2 * k + 1) 0) (c := m.getD (2 * k) 0) (d := m.getD (2 * k + 1) 0) rfl rfl rfl rfl)
      have HO := Lib.hid (times_odd (vec l) (vec m) k (a := l.getD (2 * k) 0) (b := l.getD (2 * k + 1) 0) (c := m.getD (2 * k) 0) (d := m.getD (2 * k + 1) 0) rfl rfl rfl rfl)
      generalize l.getD (2 * k) 0 = xa at ha p0 p1 HE HO
      generalize l.getD (2 * k + 1) 0 = xb at hb p2 p3 HE HO
      generalize m.getD (2 * k) 0 = xc at hc p4 p5 HE HO
      generalize m.getD (2 * k + 1) 0 = xd at hd p6 p7 HE HO
      obtain ⟨b0, b1⟩ := prod_bd xa xc p0 p1 p4 p5
      obtain ⟨b2, b3⟩ := prod_bd xb xd p2 p3 p6 p7
      obtain ⟨b4, b5⟩ := prod_bd xa xd p0 p1 p6 p7
      obtain ⟨b6, b7⟩ := prod_bd xb xc p2 p3 p4 p5
      obtain ⟨t0, t1⟩ := tpart_b7 k
      obtain ⟨z0, z1⟩ := rPow_ok 17 (2 * turn k + 1)
      obtain ⟨b8, b9⟩ := prod_bd (rPow 17 (2 * turn k + 1)) (xb * xd % 3329) z0 z1 (by omega) (by omega)
      have hi1 : (2 * (k : Int)) < (l.length : Int) := by omega
      have hi2 : (2 * (k : Int) + 1) < (l.length : Int) := by omega
      have hi3 : (2 * (k : Int)) < (m.length : Int) := by omega
      have hi4 : (2 * (k : Int) + 1) < (m.length : Int) := by omega
      go_wp2_with (first
        | (go_at_call 46; refine (turned7 _ _).mono ?_; rintro e w' ⟨rfl, rfl⟩)
        | (go_at_call 45; refine (refPow_any _ _ _ (by omega)).mono ?_; rintro e w' ⟨rfl, rfl⟩))
      have hb2 : wr.cell? { block := a.block, off := a.off + (2 * k + 1) } = some (.int .i64 xb) := by rw [← add_pos a (by omega)]; exact hb
      have hd2 : wr.cell? { block := a'.block, off := a'.off + (2 * k + 1) } = some (.int .i64 xd) := by rw [← add_pos a' (by omega)]; exact hd
      have s1 : IntKind.i64.wrap (2 * (k : Int)) = 2 * (k : Int) := IntWalk.i64_in _ (by omega)
      have s2 : IntKind.i64.wrap (2 * (k : Int) + 1) = 2 * (k : Int) + 1 := IntWalk.i64_in _ (by omega)
      have s3 : (2 * (k : Int)).toNat = 2 * k := by omega
      have s4 : (2 * (k : Int) + 1).toNat = 2 * k + 1 := by omega
      have s5 : (0 : Int) ≤ 2 * (k : Int) := by omega
      have s6 : (0 : Int) ≤ 2 * (k : Int) + 1 := by omega
      go_quiet (fail)
      clear s1 s2 s3 s4 s5 s6
      have hsz : w.heap.size ≤ wr.heap.size := HR.out.2.size
      go_wp2_with (at_builtin; refine wpList_append_lies _ rfl _ _ 22 rfl w.heap.size 3 i0 (.int .i64 0) 1 8 Tryd.underlying22 hi0 hz0 hz1 hz2 rfl (by omega) u5 (2 * k) _ rfl ((own_drewN HR.out.1 _).alloc _) ⟨wr.heap.size, 0, none⟩ 2 2 [.int .i64 ((xa * xc + rPow 17 (2 * turn k + 1) * (xb * xd % 3329)) % 3329), .int .i64 ((xa * xd + xb * xc) % 3329)] rfl rfl (World.news_of_block (cs := #[.int .i64 ((xa * xc + rPow 17 (2 * turn k + 1) * (xb * xd % 3329)) % 3329), .int .i64 ((xa * xd + xb * xc) % 3329)]) (t := 3) (fr := (0, 0)) (heap_alloc_new (wr.drewN nq) _)) (by simp [Value.oneCell']) (by omega) (by unfold maxLen; omega) (by omega) (by simp; omega) (wr.heap.size + 1) (by simp) ?_; intro gg cap w3 hown3 hgrow hat hlt'; have HPN := Lib.hid (Part.next2 ((below_drewN HR.out.2 nq).alloc hsz _) HR.out.1 hown3 hgrow (by omega) (rem_ok _) HE.out (rem_ok _) HO.out); clear hown3 hgrow hat hlt')
      go_roundw
      case rel => exact ⟨k + 1, by omega, by go_num, HPN.out⟩
      case measure => simp [intOf]; omega
    · go_wp2
      go_ret
      exact HR.out.gives (by omega)
end Go.Proofs.YtmjcgkddjgplkaaDoor
