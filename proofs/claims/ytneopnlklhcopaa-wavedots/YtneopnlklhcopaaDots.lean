/- A sum of products is the document's, and how far polys are from 0, too; of lists that are not as many, or of what is no poly, there is none: for every list, both numbers and the flag the law returns true, and the list reads behind the call as ahead of it. Conditions: none; of lists of more than 300 numbers the law itself asks nothing but its example. -/
import Derived.Test.YtneopnlklhcopaaLift
import Derived.Test.YtneopnlklhcopaaY
namespace Go.Proofs.Ytneopnlklhcopaa.waveDots
open Go.ChangeShapes Go.WideShapes Go.ChangeAt Go.RowKit Slices Go.Proofs.Ytneopnlklhcopaa.Ring

set_option maxRecDepth 100000 in
set_option maxHeartbeats 1000000 in
theorem big (A0 : Option Addr) (c0 n0 : Nat) (hb0 : n0 ≤ 4611686018427387904) (x1 : Int) (x2 : Int) (y3 : Bool) (w : World) (h : 300 < n0) (TB : Hid (Tab w)) :
    Calls Try.prog 5 #[.slice A0 n0 c0, .int .i64 x1, .int .i64 x2, .bool y3] w fun e w' => e = .returned (.bool true) ∧ Below w.heap.size w w' := by
  have g0 : 300 < n0 := by omega
  clear h
  go_enter Try.func5, Try.ntmps5
  go_wp2_with (go_at_call 11; refine (awake_any _).mono ?_; rintro e w' ⟨rfl, hb⟩)
  go_ret
  exact ⟨rfl, hb⟩

theorem walk (A0 : Option Addr) (c0 n0 : Nat) (l0 : List Int) (x1 : Int) (x2 : Int) (y3 : Bool) (w : World) (h0 : Has w w.heap.size A0 l0) (e0 : l0.length = n0) (k0 : A0 = none → n0 = 0 ∧ c0 = 0) (b0 : n0 ≤ 4611686018427387904) (TB : Hid (Tab w)) :
    Calls Try.prog 5 #[.slice A0 n0 c0, .int .i64 x1, .int .i64 x2, .bool y3] w fun e w' => e = .returned (.bool true) ∧ Below w.heap.size w w' := by
  by_cases h : 300 < n0
  · exact big A0 c0 n0 b0 x1 x2 y3 w h TB
  · subst e0
    exact dots_small A0 c0 l0 x1 x2 y3 w h0 k0 (by omega) TB

set_option maxRecDepth 100000 in
theorem lifted (os : Os) (started : os.Started) (H : Type) (enc : TypeId × Value → H) :
    ReturnsInHanded {} Try.checked os 5 .any (Rows.waveDotsSpec.pre6 enc Try.prog Try.f5 Rows.waveDotsRow.domain false) (Rows.waveDotsSpec.post enc Try.prog Try.f5 false true false false) := by
  refine returnsInHanded_of_change_sized (C := Try.checked) Try.own started (by kernel_rfl) Try.func5
    (ChangeSpec.witness6 (enc := enc) (C := Try.checked) false ⟨#[], #[.slice none 0 0, .int .i64 0, .int .i64 0, .bool false], []⟩ 8 (by kernel_rfl) (by kernel_rfl) (by kernel_rfl) (by kernel_rfl)) ?_
  intro W base args ds gs before hval0 hW _ hsz0 _
  have hsz : (DataW.weightsEach Try.prog (Try.f5.params.toList ++ Rows.waveDotsSpec.plain.varTypes Try.prog) (ds ++ gs)).all (· ≤ reachBytes) = true := hsz0
  clear hsz0
  have hval : ∀ (j : Nat) t v, Try.f5.params[j]? = some t → args[j]? = some v → Value.okWide Try.prog W .any base t v := hval0
  have hW' := hW
  obtain ⟨p, q, hA0, hV, rfl, _, _⟩ := hW
  have hA : DataW.TrodAll enc Try.prog W 0 (fun _ => true) true Try.f5.params.toList args.toList ds p := hA0
  rw [Try.params5] at hA hval hsz
  obtain ⟨v0, vs0, d0, ds0, p0, q0, hargs, rfl, rfl, g0, r0⟩ := trodAll_cons hA
  obtain ⟨v1, vs1, d1, ds1, p1, q1, rfl, rfl, rfl, g1, r1⟩ := trodAll_cons r0
  obtain ⟨v2, vs2, d2, ds2, p2, q2, rfl, rfl, rfl, g2, r2⟩ := trodAll_cons r1
  obtain ⟨v3, vs3, d3, ds3, p3, q3, rfl, rfl, rfl, g3, r3⟩ := trodAll_cons r2
  obtain ⟨rfl, rfl, rfl⟩ := trodAll_nil r3
  obtain rfl : args = #[v0, v1, v2, v3] := by cases args; simp_all
  obtain ⟨rfl, rfl⟩ := trodVars_none hV
  obtain ⟨A0, n0, c0, rfl⟩ := okWide_slice Try.underlying22 (hval 0 22 v0 rfl rfl)
  have gk0 := g0
  obtain ⟨fu0, hf0⟩ := g0
  obtain ⟨x1, rfl, rfl, rfl, wf1⟩ := open_int Try.underlying3 (hval 1 3 v1 rfl rfl) g1
  obtain ⟨x2, rfl, rfl, rfl, wf2⟩ := open_int Try.underlying3 (hval 2 3 v2 rfl rfl) g2
  obtain ⟨y3, rfl, rfl, rfl⟩ := open_bool Try.underlying4 (hval 3 4 v3 rfl rfl) g3
  clear hA0 hval0
  simp only [List.append_nil] at hW'
  have hlt : ∀ x ∈ p0, x.block < W.heap.size := fun x hx => by first | exact hW'.lt x hx | (simpa using hW'.lt x hx) | exact hW'.lt x (by simpa using hx)
  obtain ⟨l0, e0, _, k0, cell0, dd0⟩ := view hf0
  have b0 : n0 ≤ 4611686018427387904 := by
    rcases dd0 with ⟨_, h⟩ | ⟨sp, h⟩
    · omega
    · have := sized_slice hsz (j := 0) (t := 22) (e := 3) rfl (by rw [h]; rfl) Try.underlying22
      rw [Try.bytes3] at this
      simp only [lits, List.length_map, e0, reachBytes] at this
      omega
  refine (walk A0 c0 n0 l0 x1 x2 y3 W (view_has e0 cell0 fun h => (k0 h).1) e0 k0 b0 (Lib.hid tab_of)).mono fun e W' ⟨he, hb⟩ => ?_
  subst he
  refine ⟨_, rfl, _, _, _, _, _, [], hW', trodAll_mk1 (shut_bool Try.underlying4 _), (trodAll_cons_mk (Below.trod Try.laidOut (by kernel_rfl) (of_decide_eq_true (by kernel_rfl)) gk0 hb (fun x hx => hlt x (by simp [hx]))) (trodAll_cons_mk (shut_int Try.underlying3 wf1) (trodAll_cons_mk (shut_int Try.underlying3 wf2) (trodAll_cons_mk (shut_bool Try.underlying4 _) trodAll_mk0)))), rfl, hb.frame _, fun h => by cases h⟩

theorem over : Rows.waveDotsRow.holds Try.pinned (OpenSpec.ofChange Rows.waveDotsSpec) :=
  OpenClaim.holds_of_wide 5 Try.f5 rfl rfl rfl rfl rfl rfl rfl ⟨rfl, rfl, rfl, rfl, rfl⟩ rfl rfl rfl rfl rfl (by kernel_rfl) Try.func5 (by kernel_rfl)
    (of_decide_eq_true (by kernel_rfl)) (by unfold Func.isWrapper; first | (rw [if_pos (by decide +kernel)]; kernel_rfl) | (rw [if_neg (by decide +kernel)]; exact ⟨rfl, rfl⟩))
    (fun os started H enc _ => lifted os started H enc)
end Go.Proofs.Ytneopnlklhcopaa.waveDots

namespace Go.Proofs.Ytneopnlklhcopaa
theorem waveDots_holds : Rows.WaveDotsSaid := waveDots.over
#print axioms waveDots_holds
end Go.Proofs.Ytneopnlklhcopaa
