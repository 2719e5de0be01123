/- Contract: a step of the program's way over, with one root. -/
import Derived.Test.YtneopnlklhcopaaPb
import Derived.Deep.RegionWith
import Derived.BigRegion
namespace Go.Proofs.Ytneopnlklhcopaa
open Go.RowKit Slices Go.Proofs.Ytneopnlklhcopaa.Ring

/-- but for the block g all is as it was -/
def Rest (g : Nat) (a b : World) : Prop := ∀ z, z ≠ g → b.heap[z]? = a.heap[z]?
theorem Rest.refl (g : Nat) (a : World) : Rest g a a := fun _ _ => rfl
theorem Rest.put {g : Nat} {a b : World} (h : Rest g a b) (k : Nat) (v : Value) : Rest g a (b.setCell ⟨g, k, none⟩ v) := fun z hz => by
  rw [heap_setCell_other _ _ _ _ hz]; exact h z hz
theorem Rest.drewN {g : Nat} {a b : World} (h : Rest g a b) (n : Nat) : Rest g a (b.drewN n) := h

theorem pair_turn {w wr : World} {N g c : Nat} {F : V} {L I0 S M k : Nat} {l : List Int} (hm : MidRel w N g c F L I0 S M wr) (hI : I0 = 128 / L) (hL : 1 ≤ L) (h1 : k < L) (h2 : S + k + L < 256)
    {wi : World} (hown : wi.ownsRow w.heap.size 3 1 (.slice (some ⟨g, 0, none⟩) N c) N (ints l)) (hp : IsPoly l) (hs : Same (vec l) (Mix L F S (S + k))) (hb : Below w.heap.size w wi)
    {z X Y : Int} (hz : phi z = zr (M + 1)) (hX : X = l.getD (S + k) 0) (hY : Y = l.getD (S + L + k) 0) :
    Holds w N g c (Mix L F S (S + (k + 1))) ((wi.setCell ⟨g, S + k, none⟩ (.int .i64 (rOf (X + rOf (z * Y))))).setCell ⟨g, S + L + k, none⟩ (.int .i64 (rOf (X - rOf (z * Y))))) := by
  obtain ⟨b, rfl, hM, _, _⟩ := hm
  rw [hM] at hz
  subst hI
  have e : 2 * L * b + L + k = 2 * L * b + k + L := by omega
  rw [e] at hY ⊢
  subst hX
  subst hY
  obtain ⟨p1, p2⟩ := pair_step (l := l) (u := rOf (l.getD (2 * L * b + k) 0 - rOf (z * l.getD (2 * L * b + k + L) 0))) (v := rOf (l.getD (2 * L * b + k) 0 + rOf (z * l.getD (2 * L * b + k + L) 0))) (z := z) (by omega) (Nat.le_add_right _ k) (by omega) h2 hp hs hz
    (by rw [phi_of, phi_sub, phi_of, phi_mul]) (by rw [phi_of, phi_add, phi_of, phi_mul]) (rem_ok _) (rem_ok _)
  rw [List.set_comm _ _ (by omega)] at p1 p2
  exact ⟨_, own_set (own_set hown _ _) _ _, p1, p2, (hb.setCell (own_block hown).1 _).setCell (own_block hown).1 _⟩

set_option maxRecDepth 100000 in
set_option maxHeartbeats 2000000 in
theorem part_any {w wr : World} {N g c c1 c2 : Nat} {F : V} {L I0 S M : Nat} {z : Int} (hm : MidRel w N g c F L I0 S M wr) (hI : I0 = 128 / L) (hL : 1 ≤ L) (h2 : S + 2 * L ≤ 256) (hN : N = 256) (hz : z = rRoot ((M + 1 : Nat) : Int)) :
    Calls Try.prog 42 #[.slice (some ⟨g, S, none⟩) L c1, .slice (some ⟨g, S + L, none⟩) L c2, .int .i64 z] wr fun e w' => e = .returned (.tuple #[]) ∧ Holds w N g c (Mix L F S (S + L)) w' ∧ Rest g wr w' := by
  have hL2 : L ≤ 128 := by omega
  obtain ⟨z0, z1⟩ : okN z := by rw [hz]; exact rRoot_ok _
  have hst : Holds w N g c (Mix L F S (S + 0)) wr := by obtain ⟨b, rfl, _, _, hh⟩ := hm; exact hh
  have HST := Lib.hid hst
  have HM := Lib.hid hm
  have HI := Lib.hid hI
  have HZ : Hid (phi z = zr (M + 1)) := by rw [hz]; rfl
  clear hst hm hI hz
  go_enter Try.func42, Try.ntmps42
  go_wp2
  go_loopw [11] (fun i wj => ∃ k : Nat, k ≤ L ∧ i = .int .i64 k ∧ Holds w N g c (Mix L F S (S + k)) wj ∧ Rest g wr wj) (fun i _ => L - (intOf i).toNat)
  case atStart => exact ⟨0, by omega, rfl, HST.out, Rest.refl _ _⟩
  case round =>
    rename World => wj
    obtain ⟨k, hk, rfl, hh, hr⟩ := hrel
    have HH := Lib.hid hh
    have HR := Lib.hid hr
    clear hh HST hr
    by_cases hlt : k < L
    · obtain ⟨cur, hown, hpol, hsame, hbel⟩ := HH.out
      have cX := own_cell hown (k := S + k) (by omega)
      have cY := own_cell hown (k := S + L + k) (by omega)
      have fX := hown.frozenAt (S + k)
      have fY := hown.frozenAt (S + L + k)
      obtain ⟨x0, x1⟩ := hpol.2 (S + k) (by omega)
      obtain ⟨y0, y1⟩ := hpol.2 (S + L + k) (by omega)
      have hnx := pair_turn (l := cur) HM.out HI.out hL hlt (by omega) (hown.drew) hpol hsame (below_drewN hbel 1) HZ.out rfl rfl
      have HNX := Lib.hid hnx
      clear hown hpol hsame hbel hnx
      generalize cur.getD (S + k) 0 = X at cX x0 x1 HNX
      generalize cur.getD (S + L + k) 0 = Y at cY y0 y1 HNX
      obtain ⟨q0, q1⟩ := prod_bd z Y z0 z1 y0 y1
      have t0 := rOf_lo (z * Y)
      have t1 := rOf_hi (z * Y)
      go_wp2_with (go_at_call 37; refine (of_any _ _).mono ?_; rintro e w' ⟨rfl, rfl⟩)
      generalize rOf (z * Y) = t at t0 t1 HNX
      have hkL : (k : Int) < (L : Int) := by omega
      have s1 : IntKind.i64.wrap (X + t) = X + t := IntWalk.i64_in _ (by omega)
      have s2 : IntKind.i64.wrap (X - t) = X - t := IntWalk.i64_in _ (by omega)
      go_region_with (go_at_call 37; refine (of_any _ _).mono ?_; rintro e w' ⟨rfl, rfl⟩)
      all_goals (go_wp2; go_roundw)
      all_goals first
        | (case rel => exact ⟨k + 1, by omega, by go_num, HNX.out, ((HR.out.drewN 1).put _ _).put _ _⟩)
        | (case measure => simp [intOf]; omega)
    · go_wp2
      go_end0
      have e : k = L := by omega
      subst e
      exact ⟨rfl, HH.out, HR.out⟩
end Go.Proofs.Ytneopnlklhcopaa
