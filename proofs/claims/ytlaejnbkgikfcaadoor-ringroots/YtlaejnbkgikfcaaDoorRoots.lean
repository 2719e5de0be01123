/- Each root's square times 17 is an odd power of 17, whose 128-th power is -1, and no two are alike: for every two whole numbers of 64 bits the law returns true. Conditions: the program's table ring.roots holds, when the call begins, what its own initialiser lays (the card ties it to the program's text, over the pruned copy of the project); nothing else is asked of the arguments. -/
import Derived.Test.YtlaejnbkgikfcaaDoorRows
import Derived.Test.YtlaejnbkgikfcaaDoorE
import Derived.Test.YtlaejnbkgikfcaaDoorLift
import Derived.Test.YtlaejnbkgikfcaaDoorCards
import Derived.Test.YtlaejnbkgikfcaaDoorTie
import Derived.SevenTiedAt
import Derived.Test.YtlaejnbkgikfcaaDoorRootsMath
import Derived.WalkKit
import Derived.ProofKit
import Derived.OpenShut
namespace Go.Proofs.YtlaejnbkgikfcaaDoor.ringRoots
open Go.ChangeShapes Go.WideShapes Go.ChangeAt Go.RowKit Ring

theorem own : ownKnob Tryd.prog.godebug = none := by kernel_rfl

theorem beq_of {x y : Int} (h : x = y) : (x == y) = true := by rw [h]; exact beq_self_eq_true y

set_option maxHeartbeats 1000000 in
theorem walk (a0 : Int) (a1 : Int) (_w0 : (Lit.int .i64 a0).wf = true) (_w1 : (Lit.int .i64 a1).wf = true) (w : World) (TB : Hid (Tab w)) :
    Calls Tryd.prog 6 #[.int .i64 a0, .int .i64 a1] w fun e w' => e = .returned (.bool true) ∧ Grown w w' := by
  have hg := Grown.refl w
  obtain ⟨i, hi⟩ : ∃ v, v = low a0 128 := ⟨_, rfl⟩
  obtain ⟨k, hk⟩ : ∃ v, v = low a1 128 := ⟨_, rfl⟩
  obtain ⟨i0, i1⟩ := low_bd hi (by omega)
  obtain ⟨k0, k1⟩ := low_bd hk (by omega)
  have HI := Lib.hid hi
  have HK := Lib.hid hk
  clear hi hk
  have t1 : (rPow (rMul (rMul (rRoot i) (rRoot i)) 17) 128 == 3328) = true := beq_of (sq17_minus i i0 (by omega))
  have t3 : (rRoot (i + 128) == rRoot i) = true := beq_of (root_again i)
  by_cases h : i = k
  · have t4 : (i == k) = true := beq_of h
    have t2 : (rMul (rMul (rRoot i) (rRoot i)) 17 == rMul (rMul (rRoot k) (rRoot k)) 17) = true := beq_of (by rw [h])
    clear h
    go_enter Tryd.func6, Tryd.ntmps6
    go_wp2_with (first
      | (go_at_call 26; (first | (with_reducible refine (low_as HI.out _ (by omega) (by omega)).mono ?_) | (with_reducible refine (low_as HK.out _ (by omega) (by omega)).mono ?_)); rintro e w' ⟨rfl, rfl⟩)
      | (go_at_call 9; refine (awake_from TB (by assumption)).mono ?_; rintro e w' ⟨rfl, hg⟩)
      | (go_at_call 16; refine (mul_any _ _ _).mono ?_; rintro e w' ⟨rfl, rfl⟩)
      | (go_at_call 20; refine (root_any _ _ (tab_g TB (by assumption))).mono ?_; rintro e w' ⟨rfl, rfl⟩)
      | (go_at_call 18; refine (pow_any _ _ _ (by omega)).mono ?_; rintro e w' ⟨rfl, rfl⟩))
    go_ret
    exact ⟨rfl, by assumption⟩
  · have t4 : (i == k) = false := by simpa using h
    have t2 : (rMul (rMul (rRoot i) (rRoot i)) 17 == rMul (rMul (rRoot k) (rRoot k)) 17) = false := by
      rw [beq_eq_false_iff_ne]; exact fun g => h (sq17_inj i k i0 (by omega) k0 (by omega) g)
    clear h
    go_enter Tryd.func6, Tryd.ntmps6
    go_wp2_with (first
      | (go_at_call 26; (first | (with_reducible refine (low_as HI.out _ (by omega) (by omega)).mono ?_) | (with_reducible refine (low_as HK.out _ (by omega) (by omega)).mono ?_)); rintro e w' ⟨rfl, rfl⟩)
      | (go_at_call 9; refine (awake_from TB (by assumption)).mono ?_; rintro e w' ⟨rfl, hg⟩)
      | (go_at_call 16; refine (mul_any _ _ _).mono ?_; rintro e w' ⟨rfl, rfl⟩)
      | (go_at_call 20; refine (root_any _ _ (tab_g TB (by assumption))).mono ?_; rintro e w' ⟨rfl, rfl⟩)
      | (go_at_call 18; refine (pow_any _ _ _ (by omega)).mono ?_; rintro e w' ⟨rfl, rfl⟩))
    go_ret
    exact ⟨rfl, by assumption⟩

set_option maxRecDepth 100000 in
theorem lifted (os : Os) (started : os.Started) (H : Type) (enc : TypeId × Value → H) :
    ReturnsInHanded {} Tryd.checked os 6 .any (fun w args => (Rows.ringRootsSpec.pre enc Tryd.prog Tryd.f6 [] false w args ∧ laidMetH Tryd.prog laidR w) ∧ sizedMet enc Tryd.prog Tryd.f6 (OpenSpec.ofChange Rows.ringRootsSpec) false w args) (Rows.ringRootsSpec.post enc Tryd.prog Tryd.f6 false true false false) := by
  refine returnsInHanded_of_change_and (C := Tryd.checked) (X := fun w _ => laidMetH Tryd.prog laidR w) (fun _ _ _ hh h => h.of_heap hh) own started (by kernel_rfl) Tryd.func6
    (ChangeSpec.witness_shaped (enc := enc) (C := Tryd.checked) (os := os) (X := fun w _ => laidMetH Tryd.prog laidR w) false (World.doorLaid Tryd.prog 14 os) #[.int .i64 0, .int .i64 0] 8 rfl (World.shaped_of_RefB (by kernel_rfl) (by kernel_rfl)) (by kernel_rfl) (by kernel_rfl) (by kernel_rfl) (door_met os _)) ?_
  intro W base args ds gs before hval0 hW hcnd _ hL _
  have hval : ∀ (j : Nat) t v, Tryd.f6.params[j]? = some t → args[j]? = some v → Value.okWide Tryd.prog W .any base t v := hval0
  have hW' := hW
  obtain ⟨p, q, hA0, hV, rfl, hfz, hnd⟩ := hW
  have hA : DataW.TrodAll enc Tryd.prog W 0 (fun _ => true) true Tryd.f6.params.toList args.toList ds p := hA0
  rw [Tryd.params6] at hA hval
  obtain ⟨v0, vs0, d0, ds0, p0, q0, hargs, rfl, rfl, h0, r0⟩ := trodAll_cons hA
  obtain ⟨v1, vs1, d1, ds1, p1, q1, rfl, rfl, rfl, h1, r1⟩ := trodAll_cons r0
  obtain ⟨rfl, rfl, rfl⟩ := trodAll_nil r1
  obtain rfl : args = #[v0, v1] := by cases args; simp_all
  obtain ⟨rfl, rfl⟩ := trodVars_none hV
  obtain ⟨a0, rfl, rfl, rfl, w0⟩ := open_int Tryd.underlying3 (hval 0 3 v0 rfl rfl) h0
  obtain ⟨a1, rfl, rfl, rfl, w1⟩ := open_int Tryd.underlying3 (hval 1 3 v1 rfl rfl) h1
  clear hA0 hval0
  simp only [List.append_nil] at hW'
  refine (walk a0 a1 w0 w1 W (Lib.hid (tab_of hL))).mono fun e W' ⟨he, hg⟩ => ?_
  subst he
  exact ⟨_, rfl, post_of_same (pa := []) (pv := []) hW' (fun _ _ _ => (trodAll_cons_mk (shut_bool Tryd.underlying4 _) trodAll_mk0)) (fun sp _ => (trodAll_cons_mk (shut_int Tryd.underlying3 w0) (trodAll_cons_mk (shut_int Tryd.underlying3 w1) trodAll_mk0))) (fun _ _ => rfl) rfl
    (hg.frame _) hg.2.1 (ok_one (by kernel_rfl) rfl (okWide_bool_mk Tryd.underlying4 _))⟩

theorem over : Rows.ringRootsRow.holds Tryd.pinned (OpenSpec.ofChange Rows.ringRootsSpec) :=
  OpenClaim.holds_of_wide 6 Tryd.f6 rfl rfl rfl rfl rfl rfl rfl ⟨rfl, rfl, rfl, rfl, rfl⟩ rfl rfl rfl rfl rfl (by kernel_rfl) Tryd.func6 (by kernel_rfl)
    (of_decide_eq_true (by kernel_rfl)) (by unfold Func.isWrapper; first | (rw [if_pos (by decide +kernel)]; kernel_rfl) | (rw [if_neg (by decide +kernel)]; exact ⟨rfl, rfl⟩))
    (fun os started H enc _ => lifted os started H enc)

end Go.Proofs.YtlaejnbkgikfcaaDoor.ringRoots

namespace Go.Proofs.YtlaejnbkgikfcaaDoor
open Go
theorem ringRoots_holds : Rows.RingRootsCardSaid :=
  Claim7.holds_tied_plain_at .later [] [.data] true (true, "788ad70a29568237be7eadf766f4f3beecbf22ed2d736ac92df61e0124c20da3") false
    ringRoots.over (fun _ h => by cases h) (by kernel_rfl) (fun _ h => by cases h) ringRoots_row_tie rfl ⟨rfl, rfl⟩ (by kernel_rfl) rfl
    (fun f fn hf hfn => by
      obtain rfl : f = 6 := Option.some.inj ((show Tryd.prog.funcNamed "chatelaine/chatelainelaw3.RingRoots" = some 6 by kernel_rfl).symm.trans hf) |>.symm
      obtain rfl : fn = Tryd.f6 := (Option.some.inj (Tryd.func6.symm.trans hfn)).symm
      exact ⟨by kernel_rfl, fun j t ht => by
        rw [Tryd.params6] at ht
        have hm : t ∈ [3, 3] := by simpa using Array.mem_of_getElem? ht
        have hall : ([3, 3].all fun u => !Tryd.prog.wantsStandIn u) = true := by kernel_rfl
        exact (show Tryd.prog.wantsStandIn t = false by simpa using List.all_eq_true.1 hall t hm)⟩)
    (by kernel_rfl)
#print axioms ringRoots_holds
end Go.Proofs.YtlaejnbkgikfcaaDoor
