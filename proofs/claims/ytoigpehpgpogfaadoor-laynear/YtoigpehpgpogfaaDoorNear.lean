/- Any poly's bytes within any bounds, any bytes' poly, the numbers of a set and the sizes are the document's own: for all whole numbers, lists of whole numbers and bytes the law returns true, and both lists read behind the call as ahead of it. Conditions: the variable errors.errorType holds, when the call begins, what the errors package's own initialiser lays (the card ties it to the program's text, over the pruned copy of the project); nothing else is asked of the arguments. -/
import Derived.Test.YtoigpehpgpogfaaDoorLift
import Derived.Test.YtoigpehpgpogfaaDoorCards
import Derived.Test.YtoigpehpgpogfaaDoorTie
import Derived.Test.YtoigpehpgpogfaaDoorLh
import Derived.Test.YtoigpehpgpogfaaDoorNh
import Derived.SevenTiedAt
namespace Go.Proofs.YtoigpehpgpogfaaDoor.layNear
open Go.ChangeShapes Go.WideShapes Go.ChangeAt Go.RowKit Slices Go.Proofs.YtoigpehpgpogfaaDoor.Bit

theorem walk (x0 : Int) (x1 : Int) (x2 : Int) (A3 : Option Addr) (c3 n3 : Nat) (l3 : List Int) (A4 : Option Addr) (c4 n4 : Nat) (l4 : List Int) (w : World) (h3 : Has .i64 w w.heap.size A3 l3) (e3 : l3.length = n3) (_m3 : n3 ≤ c3) (_k3 : A3 = none → n3 = 0 ∧ c3 = 0) (b3 : n3 ≤ 4611686018427387904) (h4 : Has .u8 w w.heap.size A4 l4) (e4 : l4.length = n4) (_m4 : n4 ≤ c4) (_k4 : A4 = none → n4 = 0 ∧ c4 = 0) (b4 : n4 ≤ 4611686018427387904) (f4 : Fit 8 l4) (hg : Han w) :
    Calls Tryd.prog 3 #[.int .i64 x0, .int .i64 x1, .int .i64 x2, .slice A3 n3 c3, .slice A4 n4 c4] w fun e w' => e = .returned (.bool true) ∧ Below w.heap.size w w' := by
  subst e3
  subst e4
  by_cases h : 300 < l3.length ∨ 1000 < l4.length
  · exact layNear_big layOk x0 x1 x2 A3 A4 c3 c4 _ _ w b3 b4 h hg
  · exact layNear_small layOk x0 x1 x2 A3 A4 c3 c4 l3 l4 w h3 h4 _k3 _k4 (by omega) (by omega) f4 hg

set_option maxRecDepth 100000 in
theorem lifted  (os : Os) (started : os.Started) (H : Type) (enc : TypeId × Value → H) :
    ReturnsInHanded {} Tryd.checked os 3 .any (fun w args => (Rows.layNearSpec.pre enc Tryd.prog Tryd.f3 [] false w args ∧ laidMetH Tryd.prog laidR w) ∧ sizedMet enc Tryd.prog Tryd.f3 (OpenSpec.ofChange Rows.layNearSpec) false w args) (Rows.layNearSpec.post enc Tryd.prog Tryd.f3 false true false false) := by
  refine returnsInHanded_of_change_and (C := Tryd.checked) (X := fun w _ => laidMetH Tryd.prog laidR w) (fun _ _ _ hh h => h.of_heap hh) Tryd.own started (by kernel_rfl) Tryd.func3
    (ChangeSpec.witness_at (enc := enc) (C := Tryd.checked) (os := os) (X := fun w _ => laidMetH Tryd.prog laidR w) false (laidWorld os) #[.int .i64 0, .int .i64 0, .int .i64 0, .slice none 0 0, .slice none 0 0] 8 rfl (by kernel_rfl) (by kernel_rfl) (by kernel_rfl) (by kernel_rfl) (by kernel_rfl) (laidWorld_met os _)) ?_
  intro W base args ds gs before hval0 hW _ hsz0 hL _
  have hsz : (DataW.weightsEach Tryd.prog (Tryd.f3.params.toList ++ Rows.layNearSpec.plain.varTypes Tryd.prog) (ds ++ gs)).all (· ≤ reachBytes) = true := hsz0
  clear hsz0
  have hval : ∀ (j : Nat) t v, Tryd.f3.params[j]? = some t → args[j]? = some v → Value.okWide Tryd.prog W .any base t v := hval0
  have hW' := hW
  obtain ⟨p, q, hA0, hV, rfl, _, _⟩ := hW
  have hA : DataW.TrodAll enc Tryd.prog W 0 (fun _ => true) true Tryd.f3.params.toList args.toList ds p := hA0
  rw [Tryd.params3] at hA hval hsz
  obtain ⟨v0, vs0, d0, ds0, p0, q0, hargs, rfl, rfl, g0, r0⟩ := trodAll_cons hA
  obtain ⟨v1, vs1, d1, ds1, p1, q1, rfl, rfl, rfl, g1, r1⟩ := trodAll_cons r0
  obtain ⟨v2, vs2, d2, ds2, p2, q2, rfl, rfl, rfl, g2, r2⟩ := trodAll_cons r1
  obtain ⟨v3, vs3, d3, ds3, p3, q3, rfl, rfl, rfl, g3, r3⟩ := trodAll_cons r2
  obtain ⟨v4, vs4, d4, ds4, p4, q4, rfl, rfl, rfl, g4, r4⟩ := trodAll_cons r3
  obtain ⟨rfl, rfl, rfl⟩ := trodAll_nil r4
  obtain rfl : args = #[v0, v1, v2, v3, v4] := by cases args; simp_all
  obtain ⟨rfl, rfl⟩ := trodVars_none hV
  obtain ⟨x0, rfl, rfl, rfl, wf0⟩ := open_int Tryd.underlying3 (hval 0 3 v0 rfl rfl) g0
  obtain ⟨x1, rfl, rfl, rfl, wf1⟩ := open_int Tryd.underlying3 (hval 1 3 v1 rfl rfl) g1
  obtain ⟨x2, rfl, rfl, rfl, wf2⟩ := open_int Tryd.underlying3 (hval 2 3 v2 rfl rfl) g2
  obtain ⟨A3, n3, c3, rfl⟩ := okWide_slice Tryd.underlying22 (hval 3 22 v3 rfl rfl)
  have gk3 := g3
  obtain ⟨fu3, hf3⟩ := g3
  obtain ⟨A4, n4, c4, rfl⟩ := okWide_slice Tryd.underlying23 (hval 4 23 v4 rfl rfl)
  have gk4 := g4
  obtain ⟨fu4, hf4⟩ := g4
  clear hA0 hval0
  simp only [List.append_nil] at hW'
  have hlt : ∀ x ∈ p3 ++ p4, x.block < W.heap.size := fun x hx => by first | exact hW'.lt x hx | (simpa using hW'.lt x hx) | exact hW'.lt x (by simpa using hx)
  obtain ⟨l3, e3, m3, k3, cell3, dd3, _⟩ := view Tryd.underlying22 Tryd.underlying3 Tryd.cells3 hf3
  have b3 : n3 ≤ 4611686018427387904 := by
    rcases dd3 with ⟨_, h⟩ | ⟨sp, h⟩
    · omega
    · have := sized_slice hsz (j := 3) (t := 22) (e := 3) rfl (by rw [h]; rfl) Tryd.underlying22
      rw [Tryd.bytes3] at this
      simp only [lits, List.length_map, e3, reachBytes] at this
      omega
  obtain ⟨l4, e4, m4, k4, cell4, dd4, wf4⟩ := view Tryd.underlying23 Tryd.underlying5 Tryd.cells5 hf4
  have b4 : n4 ≤ 4611686018427387904 := by
    rcases dd4 with ⟨_, h⟩ | ⟨sp, h⟩
    · omega
    · have := sized_slice hsz (j := 4) (t := 23) (e := 5) rfl (by rw [h]; rfl) Tryd.underlying23
      rw [Tryd.bytes5] at this
      simp only [lits, List.length_map, e4, reachBytes] at this
      omega
  refine (walk x0 x1 x2 A3 c3 n3 l3 A4 c4 n4 l4 W (view_has e3 cell3 fun h => (k3 h).1) e3 m3 k3 b3 (view_has e4 cell4 fun h => (k4 h).1) e4 m4 k4 b4 (view_fit e4 wf4) (han_of hL)).mono fun e W' ⟨he, hb⟩ => ?_
  subst he
  refine ⟨_, rfl, _, _, _, _, _, [], hW', trodAll_mk1 (shut_bool Tryd.underlying4 _), (trodAll_cons_mk (shut_int Tryd.underlying3 wf0) (trodAll_cons_mk (shut_int Tryd.underlying3 wf1) (trodAll_cons_mk (shut_int Tryd.underlying3 wf2) (trodAll_cons_mk (Below.trod Tryd.laidOut (by kernel_rfl) (of_decide_eq_true (by kernel_rfl)) gk3 hb (fun x hx => hlt x (by simp [hx]))) (trodAll_cons_mk (Below.trod Tryd.laidOut (by kernel_rfl) (of_decide_eq_true (by kernel_rfl)) gk4 hb (fun x hx => hlt x (by simp [hx]))) trodAll_mk0))))), rfl, hb.frame _, fun h => by cases h⟩

theorem over  : Rows.layNearRow.holds Tryd.pinned (OpenSpec.ofChange Rows.layNearSpec) :=
  OpenClaim.holds_of_wide 3 Tryd.f3 rfl rfl rfl rfl rfl rfl rfl ⟨rfl, rfl, rfl, rfl, rfl⟩ rfl rfl rfl rfl rfl (by kernel_rfl) Tryd.func3 (by kernel_rfl)
    (of_decide_eq_true (by kernel_rfl)) (by unfold Func.isWrapper; first | (rw [if_pos (by decide +kernel)]; kernel_rfl) | (rw [if_neg (by decide +kernel)]; exact ⟨rfl, rfl⟩))
    (fun os started H enc _ => lifted os started H enc)
end Go.Proofs.YtoigpehpgpogfaaDoor.layNear

namespace Go.Proofs.YtoigpehpgpogfaaDoor
open Go
theorem layNear_holds  : Rows.LayNearCardSaid :=
  Claim7.holds_tied_plain_at .later [] [.handle] true (true, "828cfaca2ec0a535c32c165533ea3943899236d375b01d9608f80533f8e4634b") true
    layNear.over (fun _ h => by cases h) (by kernel_rfl) (fun _ h => by cases h) layNear_row_tie rfl ⟨rfl, rfl⟩ (by kernel_rfl) rfl
    (fun f fn hf hfn => by
      obtain rfl : f = 3 := Option.some.inj ((show Tryd.prog.funcNamed "chatelaine/chatelainelaw11.LayNear" = some 3 by kernel_rfl).symm.trans hf) |>.symm
      obtain rfl : fn = Tryd.f3 := (Option.some.inj (Tryd.func3.symm.trans hfn)).symm
      exact ⟨by kernel_rfl, fun j t ht => by
        rw [Tryd.params3] at ht
        have hm : t ∈ [3, 3, 3, 22, 23] := by simpa using Array.mem_of_getElem? ht
        have hall : ([3, 3, 3, 22, 23].all fun u => !Tryd.prog.wantsStandIn u) = true := by kernel_rfl
        exact (show Tryd.prog.wantsStandIn t = false by simpa using List.all_eq_true.1 hall t hm)⟩)
    (by kernel_rfl)
#print axioms layNear_holds
end Go.Proofs.YtoigpehpgpogfaaDoor
