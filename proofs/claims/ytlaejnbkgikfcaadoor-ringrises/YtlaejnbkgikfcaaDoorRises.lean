/- What is stretched rises, in steps that are unlike by one at most; what is squashed rises up to the last half step, and is 0 there: for every input the law returns true. Conditions: the program's table ring.roots holds, when the call begins, what its own initialiser lays (the card ties it to the program's text, over the pruned copy of the project); nothing else is asked of the arguments. -/
import Derived.Test.YtlaejnbkgikfcaaDoorRows
import Derived.Test.YtlaejnbkgikfcaaDoorE
import Derived.Test.YtlaejnbkgikfcaaDoorLift
import Derived.Test.YtlaejnbkgikfcaaDoorCards
import Derived.Test.YtlaejnbkgikfcaaDoorTie
import Derived.SevenTiedAt
import Derived.Test.YtlaejnbkgikfcaaDoorNearMath
import Derived.WalkKit
import Derived.ProofKit
import Derived.OpenShut
namespace Go.Proofs.YtlaejnbkgikfcaaDoor.ringRises
open Go.ChangeShapes Go.WideShapes Go.ChangeAt Go.RowKit Ring

theorem own : ownKnob Tryd.prog.godebug = none := by kernel_rfl

theorem beq_of {x y : Int} (h : x = y) : (x == y) = true := by rw [h]; exact beq_self_eq_true y
theorem bne_of {x y : Int} (h : x ≠ y) : (x == y) = false := by rw [beq_eq_false_iff_ne]; exact h
theorem prod_in (x P : Int) (x0 : 0 ≤ x) (x1 : x ≤ 3327) (P0 : 2 ≤ P) (P1 : P ≤ 2048) : 0 ≤ x * (2 * P) ∧ x * (2 * P) ≤ 13627392 := by
  refine ⟨Int.mul_nonneg x0 (by omega), ?_⟩
  have := Int.mul_le_mul x1 (show 2 * P ≤ 4096 by omega) (by omega) (by omega : (0:Int) ≤ 3327)
  omega

set_option maxRecDepth 100000 in
set_option maxHeartbeats 6000000 in
theorem walk (a0 : Int) (a1 : Int) (a2 : Int) (_w0 : (Lit.int .i64 a0).wf = true) (_w1 : (Lit.int .i64 a1).wf = true) (_w2 : (Lit.int .i64 a2).wf = true) (w : World) (TB : Hid (Tab w)) :
    Calls Tryd.prog 7 #[.int .i64 a0, .int .i64 a1, .int .i64 a2] w fun e w' => e = .returned (.bool true) ∧ Grown w w' := by
  have hg := Grown.refl w
  obtain ⟨x, hx⟩ : ∃ v, v = low a0 3328 := ⟨_, rfl⟩
  obtain ⟨l, hl⟩ : ∃ v, v = low a2 11 := ⟨_, rfl⟩
  obtain ⟨x0, x1⟩ := low_bd hx (by omega)
  obtain ⟨l0, l1⟩ := low_bd hl (by omega)
  obtain ⟨P0, P1⟩ := two_pow_bd (1 + l) (by omega) (by omega)
  obtain ⟨s0, s1⟩ := sq_in (1 + l) x (by omega) (by omega) x0 (by omega)
  obtain ⟨r0, r1⟩ := sq_in (1 + l) (x + 1) (by omega) (by omega) (by omega) (by omega)
  have hr := rises_in (1 + l) x (by omega) (by omega) x0 (by omega)
  have hh := half_in (1 + l) x (by omega) (by omega) x0 (by omega)
  obtain ⟨y, hy⟩ : ∃ v, v = low a1 (2 ^ (1 + l).toNat - 1) := ⟨_, rfl⟩
  obtain ⟨y0, y1⟩ := low_bd hy (by omega)
  obtain ⟨g0, g1⟩ := steps_in (1 + l) y (by omega) (by omega) y0 (by omega)
  have h2 : (2 : Int) ^ (1 + l + 1).toNat = 2 * 2 ^ (1 + l).toNat := by rw [show (1 + l + 1).toNat = (1 + l).toNat + 1 by omega, Int.pow_succ, Int.mul_comm]
  obtain ⟨d0, d1⟩ := div_bd (2 ^ (1 + l).toNat) (by omega)
  obtain ⟨P, h1⟩ : ∃ P : Int, (2 : Int) ^ (1 + l).toNat = P := ⟨_, rfl⟩
  rw [h1] at P0 P1 s1 r1 hr hh hy y1 h2 g0 g1 d0 d1
  obtain ⟨L, hL⟩ : ∃ L : Int, 3329 / P = L := ⟨_, rfl⟩
  rw [hL] at g0 g1 d0 d1
  obtain ⟨H, hH⟩ : ∃ H : Int, (3329 * (2 * P - 1) + 2 * P - 1) / (2 * P) = H := ⟨_, rfl⟩
  have hS : halfOf P = H := hH
  rw [hS] at hh
  clear hS
  obtain ⟨m0, m1⟩ := prod_in x P x0 (by omega) P0 P1
  have t1 : (rStretch (1 + l) 0 == 0) = true := beq_of (stretch_zero (1 + l) (by omega) (by omega))
  have hc : ((rSquash (1 + l) (x + 1) == rSquash (1 + l) x) = true) ∨ ((rSquash (1 + l) (x + 1) == rSquash (1 + l) x) = false ∧ (rSquash (1 + l) (x + 1) == rSquash (1 + l) x + 1) = true)
      ∨ ((rSquash (1 + l) (x + 1) == rSquash (1 + l) x) = false ∧ (rSquash (1 + l) (x + 1) == rSquash (1 + l) x + 1) = false ∧ (rSquash (1 + l) (x + 1) == 0) = true ∧ (rSquash (1 + l) x == P - 1) = true) := by
    rcases hr with (c | c) | ⟨c, c'⟩
    · exact .inl (beq_of c)
    · exact .inr (.inl ⟨bne_of (by omega), beq_of c⟩)
    · exact .inr (.inr ⟨bne_of (by omega), bne_of (by omega), beq_of c, beq_of c'⟩)
  have hk : (x < H ∧ 0 < rSquash (1 + l) x) ∨ (x < H ∧ rSquash (1 + l) x ≤ 0 ∧ x * (2 * P) < 3329) ∨ (decide (x < H) = false ∧ decide (0 < rSquash (1 + l) x) = false ∧ decide (x * (2 * P) < 3329) = false) := by
    by_cases k : x < H
    · rcases hh.mp k with g | g
      · exact .inl ⟨k, g⟩
      · by_cases k' : 0 < rSquash (1 + l) x
        · exact .inl ⟨k, k'⟩
        · exact .inr (.inl ⟨k, by omega, g⟩)
    · refine .inr (.inr ⟨decide_eq_false k, decide_eq_false fun g => k (hh.mpr (.inl g)), decide_eq_false fun g => k (hh.mpr (.inr g))⟩)
  have HX := Lib.hid hx
  have HL := Lib.hid hl
  have HY := Lib.hid hy
  clear hx hl hy hr hh
  rcases hc with c1 | ⟨c1, c2⟩ | ⟨c1, c2, c3, c4⟩ <;> rcases hk with ⟨k1, k2⟩ | ⟨k1, k2, k3⟩ | ⟨k1, k2, k3⟩
  all_goals
    go_enter Tryd.func7, Tryd.ntmps7
    go_wp2_with (first
      | (go_at_call 26; (first | (with_reducible refine (low_as HX.out _ (by omega) (by omega)).mono ?_) | (with_reducible refine (low_as HL.out _ (by omega) (by omega)).mono ?_) | (with_reducible refine (low_as HY.out _ (by omega) (by omega)).mono ?_)); rintro e w' ⟨rfl, rfl⟩)
      | (go_at_call 9; refine (awake_from TB (by first | assumption | exact grown_drewN (by assumption) _)).mono ?_; rintro e w' ⟨rfl, hg⟩)
      | (go_at_call 22; refine (squash_from _ _ (by assumption)).mono ?_; rintro e w' ⟨rfl, hg⟩)
      | (go_at_call 24; refine (stretch_from _ _ (by first | assumption | exact grown_drewN (by assumption) _)).mono ?_; rintro e w' ⟨rfl, hg⟩))
    go_quiet (fail)
    go_wp2_with (first
      | (go_at_call 26; (first | (with_reducible refine (low_as HX.out _ (by omega) (by omega)).mono ?_) | (with_reducible refine (low_as HL.out _ (by omega) (by omega)).mono ?_) | (with_reducible refine (low_as HY.out _ (by omega) (by omega)).mono ?_)); rintro e w' ⟨rfl, rfl⟩)
      | (go_at_call 9; refine (awake_from TB (by first | assumption | exact grown_drewN (by assumption) _)).mono ?_; rintro e w' ⟨rfl, hg⟩)
      | (go_at_call 22; refine (squash_from _ _ (by assumption)).mono ?_; rintro e w' ⟨rfl, hg⟩)
      | (go_at_call 24; refine (stretch_from _ _ (by first | assumption | exact grown_drewN (by assumption) _)).mono ?_; rintro e w' ⟨rfl, hg⟩))
    go_ret
    exact ⟨rfl, by assumption⟩

set_option maxRecDepth 100000 in
theorem lifted (os : Os) (started : os.Started) (H : Type) (enc : TypeId × Value → H) :
    ReturnsInHanded {} Tryd.checked os 7 .any (fun w args => (Rows.ringRisesSpec.pre enc Tryd.prog Tryd.f7 [] false w args ∧ laidMetH Tryd.prog laidR w) ∧ sizedMet enc Tryd.prog Tryd.f7 (OpenSpec.ofChange Rows.ringRisesSpec) false w args) (Rows.ringRisesSpec.post enc Tryd.prog Tryd.f7 false true false false) := by
  refine returnsInHanded_of_change_and (C := Tryd.checked) (X := fun w _ => laidMetH Tryd.prog laidR w) (fun _ _ _ hh h => h.of_heap hh) own started (by kernel_rfl) Tryd.func7
    (ChangeSpec.witness_shaped (enc := enc) (C := Tryd.checked) (os := os) (X := fun w _ => laidMetH Tryd.prog laidR w) false (World.doorLaid Tryd.prog 14 os) #[.int .i64 0, .int .i64 0, .int .i64 0] 8 rfl (World.shaped_of_RefB (by kernel_rfl) (by kernel_rfl)) (by kernel_rfl) (by kernel_rfl) (by kernel_rfl) (door_met os _)) ?_
  intro W base args ds gs before hval0 hW hcnd _ hL _
  have hval : ∀ (j : Nat) t v, Tryd.f7.params[j]? = some t → args[j]? = some v → Value.okWide Tryd.prog W .any base t v := hval0
  have hW' := hW
  obtain ⟨p, q, hA0, hV, rfl, hfz, hnd⟩ := hW
  have hA : DataW.TrodAll enc Tryd.prog W 0 (fun _ => true) true Tryd.f7.params.toList args.toList ds p := hA0
  rw [Tryd.params7] at hA hval
  obtain ⟨v0, vs0, d0, ds0, p0, q0, hargs, rfl, rfl, h0, r0⟩ := trodAll_cons hA
  obtain ⟨v1, vs1, d1, ds1, p1, q1, rfl, rfl, rfl, h1, r1⟩ := trodAll_cons r0
  obtain ⟨v2, vs2, d2, ds2, p2, q2, rfl, rfl, rfl, h2, r2⟩ := trodAll_cons r1
  obtain ⟨rfl, rfl, rfl⟩ := trodAll_nil r2
  obtain rfl : args = #[v0, v1, v2] := by cases args; simp_all
  obtain ⟨rfl, rfl⟩ := trodVars_none hV
  obtain ⟨a0, rfl, rfl, rfl, w0⟩ := open_int Tryd.underlying3 (hval 0 3 v0 rfl rfl) h0
  obtain ⟨a1, rfl, rfl, rfl, w1⟩ := open_int Tryd.underlying3 (hval 1 3 v1 rfl rfl) h1
  obtain ⟨a2, rfl, rfl, rfl, w2⟩ := open_int Tryd.underlying3 (hval 2 3 v2 rfl rfl) h2
  clear hA0 hval0
  simp only [List.append_nil] at hW'
  refine (walk a0 a1 a2 w0 w1 w2 W (Lib.hid (tab_of hL))).mono fun e W' ⟨he, hg⟩ => ?_
  subst he
  exact ⟨_, rfl, post_of_same (pa := []) (pv := []) hW' (fun _ _ _ => (trodAll_cons_mk (shut_bool Tryd.underlying4 _) trodAll_mk0)) (fun sp _ => (trodAll_cons_mk (shut_int Tryd.underlying3 w0) (trodAll_cons_mk (shut_int Tryd.underlying3 w1) (trodAll_cons_mk (shut_int Tryd.underlying3 w2) trodAll_mk0)))) (fun _ _ => rfl) rfl
    (hg.frame _) hg.2.1 (ok_one (by kernel_rfl) rfl (okWide_bool_mk Tryd.underlying4 _))⟩

theorem over : Rows.ringRisesRow.holds Tryd.pinned (OpenSpec.ofChange Rows.ringRisesSpec) :=
  OpenClaim.holds_of_wide 7 Tryd.f7 rfl rfl rfl rfl rfl rfl rfl ⟨rfl, rfl, rfl, rfl, rfl⟩ rfl rfl rfl rfl rfl (by kernel_rfl) Tryd.func7 (by kernel_rfl)
    (of_decide_eq_true (by kernel_rfl)) (by unfold Func.isWrapper; first | (rw [if_pos (by decide +kernel)]; kernel_rfl) | (rw [if_neg (by decide +kernel)]; exact ⟨rfl, rfl⟩))
    (fun os started H enc _ => lifted os started H enc)

end Go.Proofs.YtlaejnbkgikfcaaDoor.ringRises

namespace Go.Proofs.YtlaejnbkgikfcaaDoor
open Go
theorem ringRises_holds : Rows.RingRisesCardSaid :=
  Claim7.holds_tied_plain_at .later [] [.data] true (true, "788ad70a29568237be7eadf766f4f3beecbf22ed2d736ac92df61e0124c20da3") false
    ringRises.over (fun _ h => by cases h) (by kernel_rfl) (fun _ h => by cases h) ringRises_row_tie rfl ⟨rfl, rfl⟩ (by kernel_rfl) rfl
    (fun f fn hf hfn => by
      obtain rfl : f = 7 := Option.some.inj ((show Tryd.prog.funcNamed "chatelaine/chatelainelaw3.RingRises" = some 7 by kernel_rfl).symm.trans hf) |>.symm
      obtain rfl : fn = Tryd.f7 := (Option.some.inj (Tryd.func7.symm.trans hfn)).symm
      exact ⟨by kernel_rfl, fun j t ht => by
        rw [Tryd.params7] at ht
        have hm : t ∈ [3, 3, 3] := by simpa using Array.mem_of_getElem? ht
        have hall : ([3, 3, 3].all fun u => !Tryd.prog.wantsStandIn u) = true := by kernel_rfl
        exact (show Tryd.prog.wantsStandIn t = false by simpa using List.all_eq_true.1 hall t hm)⟩)
    (by kernel_rfl)
#print axioms ringRises_holds
end Go.Proofs.YtlaejnbkgikfcaaDoor
