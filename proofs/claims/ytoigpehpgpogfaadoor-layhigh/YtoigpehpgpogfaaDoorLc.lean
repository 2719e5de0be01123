/- Contracts: a poly's bytes within bounds, and bytes' poly, by the document's own code. -/
import Derived.Test.YtoigpehpgpogfaaDoorLb
namespace Go.Proofs.YtoigpehpgpogfaaDoor
open Go.RowKit Slices Go.Proofs.YtoigpehpgpogfaaDoor.Bit

/-- the first k numbers, each taken from b, are laid -/
def NRow (w : World) (b : Int) (f : List Int) (k : Nat) (v : Value) (wr : World) : Prop :=
  wr.ownsRow w.heap.size 3 1 v k (ints .i64 ((lessL b f).take k)) ∧ Below w.heap.size w wr
theorem NRow.more {w wr w1 : World} {b : Int} {f : List Int} {k : Nat} {v v1 : Value} {y : Int} (h : NRow w b f k v wr) (hk : k < f.length) (hy : y = b - about b (f.getD k 0))
    (ho : w1.ownsRow w.heap.size 3 1 v1 (k + 1) (ints .i64 ((lessL b f).take k) ++ [.int .i64 y])) (hb : Below w.heap.size wr w1) : NRow w b f (k + 1) v1 w1 := by
  refine ⟨?_, h.2.trans hb⟩
  rw [lessL_more hk, ← hy, ← ints_snoc]
  exact ho
theorem own_down {t : TypeId} {w : World} {B B' n : Nat} {v : Value} {xs : List Value} (h : w.ownsRow B t 1 v n xs) (hB : B' ≤ B) : w.ownsRow B' t 1 v n xs := by
  refine ⟨h.1, ?_⟩
  rcases h.2 with h' | ⟨g, c, cur, hv, hb, hr⟩
  · exact .inl h'
  · exact .inr ⟨g, c, cur, hv, Nat.le_trans hB hb, hr⟩
theorem Res.up {κ : IntKind} {t : TypeId} {w wr w' : World} {l : List Int} {e : Ending} (h : Res κ t wr l e w') (hb : Below w.heap.size w wr) : Res κ t w l e w' := by
  obtain ⟨A, c, he, ho, hb'⟩ := h
  exact ⟨A, c, he, own_down ho hb.size, hb.trans (hb'.mono hb.size)⟩
theorem inTo_next {a b : Int} {f : List Int} {k : Nat} (h : InTo a b f k) (hk : -a ≤ about b (f.getD k 0)) : InTo a b f (k + 1) := fun j hj => by
  by_cases e : j = k
  · subst e; exact hk
  · exact h j (by omega)

set_option maxRecDepth 100000 in
set_option maxHeartbeats 2000000 in
theorem refNear_in (a b : Int) (A : Option Addr) (c : Nat) (f : List Int) (w : World) (h : Has .i64 w w.heap.size A f) (hw : 1 ≤ widthI a b) (hp : IsPoly f) :
    Calls Tryd.prog 18 #[.int .i64 a, .int .i64 b, .slice A f.length c] w (Res .u8 5 w (nearI a b f)) := by
  obtain ⟨i0, hi0, hz0, hz1, hz2⟩ := info_parts Tryd.info3
  have n0 : f.length ≤ 256 := by rw [hp.1]; exact Nat.le_refl _
  have n1 : 256 ≤ f.length := by rw [hp.1]; exact Nat.le_refl _
  have hd := width_le a b
  obtain ⟨a0, b0, a1, b1⟩ := width_bounds hw
  have H := Lib.hid h
  have HP := Lib.hid hp
  have HW := Lib.hid hw
  obtain ⟨D, hD⟩ : ∃ D, D = widthI a b := ⟨_, rfl⟩
  have HD := Lib.hid hD
  rw [← hD] at hw hd
  have t0 : ((D : Int) == 0) = false := by rw [beq_eq_false_iff_ne]; omega
  clear h hp hD
  go_enter Tryd.func18, Tryd.ntmps18
  go_wp2_with (first
    | (go_at_call 45; refine (width_any a b _).mono ?_; rw [← HD.out]; rintro e w' ⟨rfl, rfl⟩)
    | (go_at_call 46; refine (may_yes _ _ _ f _ H.out HP.out).mono ?_; rintro e w' ⟨rfl, n, rfl⟩))
  have HS : Hid (NRow w b f 0 (.slice none 0 0) (w.drewN n)) := ⟨World.ownsRow_nil _ _ _ _, below_drewN (Below.refl _ _) n⟩
  go_loopw [8, 9, 10] (fun v i _ wr => ∃ k : Nat, k ≤ 256 ∧ i = .int .i64 k ∧ InTo a b f k ∧ NRow w b f k v wr) (fun _ i _ _ => 256 - (intOf i).toNat)
  case atStart => exact ⟨0, by omega, rfl, fun j hj => by omega, HS.out⟩
  case round =>
    obtain ⟨k, hk, rfl, hin, hrow⟩ := hrel
    have HN := Lib.hid hin
    have HR := Lib.hid hrow
    clear hin hrow HS
    by_cases hlt : k < 256
    · have bk : decide ((k : Int) < 256) = true := by rw [decide_eq_true_iff]; omega
      obtain ⟨ad, rfl, hab, hac⟩ := (H.out.below HR.out.2) k (by omega)
      obtain ⟨x0, x1⟩ := HP.out.2 k hlt
      have hsz : w.heap.size ≤ wr.heap.size := HR.out.2.size
      obtain ⟨x, hx⟩ : ∃ x, x = f.getD k 0 := ⟨_, rfl⟩
      rw [← hx] at hac x0 x1
      have HX := Lib.hid hx
      clear hx
      obtain ⟨y, hy⟩ : ∃ y, y = about b x := ⟨_, rfl⟩
      have HY : Hid (y = about b (f.getD k 0)) := by show y = _; rw [← HX.out]; exact hy
      have y1 : y ≤ b := by rw [hy]; exact about_le b0 ⟨x0, x1⟩
      unfold about at hy
      by_cases hbx : b < x
      · rw [if_pos hbx] at hy
        have dx : decide (b < x) = true := by rw [decide_eq_true_iff]; exact hbx
        have y0 : -8380417 ≤ y := by omega
        have e1 : x - 8380417 = y := by omega
        clear hbx hy
        by_cases hay : y < -a
        · have da : decide (y < -a) = true := by rw [decide_eq_true_iff]; exact hay
          have HB : Hid (¬ NearOk a b f) := fun hne => by have := hne.2.2 k hlt; rw [← HY.out] at this; omega
          clear hay
          go_wp2
          go_ret
          rw [near_no HB.out]
          exact res_nil rfl HR.out.2
        · have da : decide (y < -a) = false := by rw [decide_eq_false_iff_not]; exact hay
          have HN2 := Lib.hid (inTo_next HN.out (by rw [← HY.out]; omega))
          clear hay
          go_wp2_with (at_builtin; refine wpList_append_own _ rfl _ _ 22 rfl w.heap.size 3 i0 (.int .i64 0) 1 8 Tryd.underlying22 hi0 hz0 hz1 hz2 rfl (by decide) _ k _ rfl (HR.out.1.alloc _) ⟨wr.heap.size, 0, none⟩ 1 1 [.int .i64 (b - y)] rfl rfl (World.news_of_block (cs := #[.int .i64 (b - y)]) (t := 3) (fr := (0, 0)) (heap_alloc_new wr _)) (by simp [Value.oneCell']) (by unfold maxLen; omega) (by omega) (by simp; omega) ?_; intro v1 w1 hown hgrow hnil; clear hnil; have HO1 := Lib.hid hown; have HG1 := Lib.hid hgrow; clear hown hgrow)
          have hB : Below w.heap.size wr w1 := ((Below.refl _ wr).alloc hsz _).grown HG1.out (by simp; omega) (fun j hj => (HR.out.1.lt j hj).1)
          have HPN := Lib.hid (HR.out.more (by omega) (by rw [← HY.out]) HO1.out hB)
          clear hB HO1 HG1
          go_roundw
          case rel => exact ⟨k + 1, by omega, by go_num, HN2.out, HPN.out⟩
          case measure => simp [intOf]; omega
      · rw [if_neg hbx] at hy
        have dx : decide (b < x) = false := by rw [decide_eq_false_iff_not]; exact hbx
        have da : decide (y < -a) = false := by rw [decide_eq_false_iff_not]; omega
        have HN2 := Lib.hid (inTo_next HN.out (by rw [← HY.out]; omega))
        have y0 : 0 ≤ y := by omega
        clear hbx
        subst hy
        go_wp2_with (at_builtin; refine wpList_append_own _ rfl _ _ 22 rfl w.heap.size 3 i0 (.int .i64 0) 1 8 Tryd.underlying22 hi0 hz0 hz1 hz2 rfl (by decide) _ k _ rfl (HR.out.1.alloc _) ⟨wr.heap.size, 0, none⟩ 1 1 [.int .i64 (b - y)] rfl rfl (World.news_of_block (cs := #[.int .i64 (b - y)]) (t := 3) (fr := (0, 0)) (heap_alloc_new wr _)) (by simp [Value.oneCell']) (by unfold maxLen; omega) (by omega) (by simp; omega) ?_; intro v1 w1 hown hgrow hnil; clear hnil; have HO1 := Lib.hid hown; have HG1 := Lib.hid hgrow; clear hown hgrow)
        have hB : Below w.heap.size wr w1 := ((Below.refl _ wr).alloc hsz _).grown HG1.out (by simp; omega) (fun j hj => (HR.out.1.lt j hj).1)
        have HPN := Lib.hid (HR.out.more (by omega) (by rw [← HY.out]) HO1.out hB)
        clear hB HO1 HG1
        go_roundw
        case rel => exact ⟨k + 1, by omega, by go_num, HN2.out, HPN.out⟩
        case measure => simp [intOf]; omega
    · have bk : decide ((k : Int) < 256) = false := by rw [decide_eq_false_iff_not]; omega
      have e : k = 256 := by omega
      subst e
      have hrow := HR.out.1
      rw [List.take_of_length_le (by rw [lessL_len]; omega)] at hrow
      obtain ⟨g, cg, rfl, hg⟩ := own_form hrow (by omega)
      have HH := Lib.hid (own_has hrow)
      have HOK : Hid (NearOk a b f) := ⟨HW.out, HP.out, HN.out⟩
      clear hrow
      go_wp2_with (go_at_call 47; refine (refPack_any (D : Int) (some ⟨g, 0, none⟩) cg 256 (lessL b f) _ (by rw [lessL_len]; omega) HH.out (by rw [lessL_len]; omega)).mono ?_; rintro e w' ⟨A1, c1, rfl, ho, hb⟩; have HRES := Lib.hid (show Res .u8 5 wr (packI (D : Int) (lessL b f)) (.returned (.slice A1 (packI (D : Int) (lessL b f)).length c1)) w' from ⟨A1, c1, rfl, ho, hb⟩); clear ho hb)
      go_ret
      rw [near_yes HOK.out, ← HD.out]
      exact Res.up HRES.out HR.out.2

theorem refNear_any (a b : Int) (A : Option Addr) (c n : Nat) (f : List Int) (w : World) (hl : n = f.length) (h : Has .i64 w w.heap.size A f) (hn : f.length ≤ 4000) :
    Calls Tryd.prog 18 #[.int .i64 a, .int .i64 b, .slice A n c] w (Res .u8 5 w (nearI a b f)) := by
  subst hl
  by_cases hw : 1 ≤ widthI a b
  · by_cases hp : IsPoly f
    · exact refNear_in a b A c f w h hw hp
    · rw [near_no fun g => hp g.2.1]
      have H := Lib.hid h
      have HP := Lib.hid hp
      have hd := width_le a b
      obtain ⟨D, hD⟩ : ∃ D, D = widthI a b := ⟨_, rfl⟩
      have HD := Lib.hid hD
      rw [← hD] at hw hd
      have t0 : ((D : Int) == 0) = false := by rw [beq_eq_false_iff_ne]; omega
      clear h hp hD
      go_enter Tryd.func18, Tryd.ntmps18
      go_wp2_with (first
        | (go_at_call 45; refine (width_any a b _).mono ?_; rw [← HD.out]; rintro e w' ⟨rfl, rfl⟩)
        | (go_at_call 46; refine (may_no _ _ _ f _ H.out (by omega) HP.out).mono ?_; rintro e w' ⟨rfl, n, rfl⟩))
      go_ret
      exact res_nil rfl (below_drewN (Below.refl _ _) n)
  · rw [near_no fun g => hw g.1]
    have hD : widthI a b = 0 := by omega
    have HD := Lib.hid hD
    clear hw hD h
    go_enter Tryd.func18, Tryd.ntmps18
    go_wp2_with (go_at_call 45; refine (width_any a b _).mono ?_; rw [HD.out]; rintro e w' ⟨rfl, rfl⟩)
    go_ret
    exact res_nil rfl (Below.refl _ _)
end Go.Proofs.YtoigpehpgpogfaaDoor
