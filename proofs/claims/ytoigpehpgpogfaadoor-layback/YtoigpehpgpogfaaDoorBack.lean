/- Numbers within bounds that were laid are told again, and one beyond them is refused: for all whole numbers and lists of whole numbers the law returns true, and the list reads behind the call as ahead of it. Conditions: the variable errors.errorType holds, when the call begins, what the errors package's own initialiser lays (the card ties it to the program's text, over the pruned copy of the project); nothing else is asked of the arguments. -/
import Derived.Test.YtoigpehpgpogfaaDoorLift
import Derived.Test.YtoigpehpgpogfaaDoorCards
import Derived.Test.YtoigpehpgpogfaaDoorTie
import Derived.Test.YtoigpehpgpogfaaDoorLj
import Derived.Test.YtoigpehpgpogfaaDoorNh
import Derived.SevenTiedAt
namespace Go.Proofs.YtoigpehpgpogfaaDoor.layBack
open Go.ChangeShapes Go.WideShapes Go.ChangeAt Go.RowKit Slices Go.Proofs.YtoigpehpgpogfaaDoor.Bit

theorem walk (x0 : Int) (x1 : Int) (A2 : Option Addr) (c2 n2 : Nat) (l2 : List Int) (w : World) (h2 : Has .i64 w w.heap.size A2 l2) (e2 : l2.length = n2) (_m2 : n2 ≤ c2) (_k2 : A2 = none → n2 = 0 ∧ c2 = 0) (b2 : n2 ≤ 4611686018427387904) (hg : Han w) :
    Calls Tryd.prog 4 #[.int .i64 x0, .int .i64 x1, .slice A2 n2 c2] w fun e w' => e = .returned (.bool true) ∧ Below w.heap.size w w' := by
  subst e2
  by_cases h : 300 < l2.length ∨ l2.length = 0
  · exact layBack_big layOk x0 x1 A2 c2 _ w b2 h hg
  · exact layBack_small layOk x0 x1 A2 c2 l2 w h2 (by omega) (by omega) hg

set_option maxRecDepth 100000 in
theorem lifted  (os : Os) (started : os.Started) (H : Type) (enc : TypeId × Value → H) :
    ReturnsInHanded {} Tryd.checked os 4 .any (fun w args => (Rows.layBackSpec.pre enc Tryd.prog Tryd.f4 [] false w args ∧ laidMetH Tryd.prog laidR w) ∧ sizedMet enc Tryd.prog Tryd.f4 (OpenSpec.ofChange Rows.layBackSpec) false w args) (Rows.layBackSpec.post enc Tryd.prog Tryd.f4 false true false false) := by
  refine returnsInHanded_of_change_and (C := Tryd.checked) (X := fun w _ => laidMetH Tryd.prog laidR w) (fun _ _ _ hh h => h.of_heap hh) Tryd.own started (by kernel_rfl) Tryd.func4
    (ChangeSpec.witness_at (enc := enc) (C := Tryd.checked) (os := os) (X := fun w _ => laidMetH Tryd.prog laidR w) false (laidWorld os) #[.int .i64 0, .int .i64 0, .slice none 0 0] 8 rfl (by kernel_rfl) (by kernel_rfl) (by kernel_rfl) (by kernel_rfl) (by kernel_rfl) (laidWorld_met os _)) ?_
  intro W base args ds gs before hval0 hW _ hsz0 hL _
  have hsz : (DataW.weightsEach Tryd.prog (Tryd.f4.params.toList ++ Rows.layBackSpec.plain.varTypes Tryd.prog) (ds ++ gs)).all (· ≤ reachBytes) = true := hsz0
  clear hsz0
  have hval : ∀ (j : Nat) t v, Tryd.f4.params[j]? = some t → args[j]? = some v → Value.okWide Tryd.prog W .any base t v := hval0
  have hW' := hW
  obtain ⟨p, q, hA0, hV, rfl, _, _⟩ := hW
  have hA : DataW.TrodAll enc Tryd.prog W 0 (fun _ => true) true Tryd.f4.params.toList args.toList ds p := hA0
  rw [Tryd.params4] at hA hval hsz
  obtain ⟨v0, vs0, d0, ds0, p0, q0, hargs, rfl, rfl, g0, r0⟩ := trodAll_cons hA
  obtain ⟨v1, vs1, d1, ds1, p1, q1, rfl, rfl, rfl, g1, r1⟩ := trodAll_cons r0
  obtain ⟨v2, vs2, d2, ds2, p2, q2, rfl, rfl, rfl, g2, r2⟩ := trodAll_cons r1
  obtain ⟨rfl, rfl, rfl⟩ := trodAll_nil r2
  obtain rfl : args = #[v0, v1, v2] := by cases args; simp_all
  obtain ⟨rfl, rfl⟩ := trodVars_none hV
  obtain ⟨x0, rfl, rfl, rfl, wf0⟩ := open_int Tryd.underlying3 (hval 0 3 v0 rfl rfl) g0
  obtain ⟨x1, rfl, rfl, rfl, wf1⟩ := open_int Tryd.underlying3 (hval 1 3 v1 rfl rfl) g1
  obtain ⟨A2, n2, c2, rfl⟩ := okWide_slice Tryd.underlying22 (hval 2 22 v2 rfl rfl)
  have gk2 := g2
  obtain ⟨fu2, hf2⟩ := g2
  clear hA0 hval0
  simp only [List.append_nil] at hW'
  have hlt : ∀ x ∈ p2, x.block < W.heap.size := fun x hx => by first | exact hW'.lt x hx | (simpa using hW'.lt x hx) | exact hW'.lt x (by simpa using hx)
  obtain ⟨l2, e2, m2, k2, cell2, dd2, _⟩ := view Tryd.underlying22 Tryd.underlying3 Tryd.cells3 hf2
  have b2 : n2 ≤ 4611686018427387904 := by
    rcases dd2 with ⟨_, h⟩ | ⟨sp, h⟩
    · omega
    · have := sized_slice hsz (j := 2) (t := 22) (e := 3) rfl (by rw [h]; rfl) Tryd.underlying22
      rw [Tryd.bytes3] at this
      simp only [lits, List.length_map, e2, reachBytes] at this
      omega
  refine (walk x0 x1 A2 c2 n2 l2 W (view_has e2 cell2 fun h => (k2 h).1) e2 m2 k2 b2 (han_of hL)).mono fun e W' ⟨he, hb⟩ => ?_
  subst he
  refine ⟨_, rfl, _, _, _, _, _, [], hW', trodAll_mk1 (shut_bool Tryd.underlying4 _), (trodAll_cons_mk (shut_int Tryd.underlying3 wf0) (trodAll_cons_mk (shut_int Tryd.underlying3 wf1) (trodAll_cons_mk (Below.trod Tryd.laidOut (by kernel_rfl) (of_decide_eq_true (by kernel_rfl)) gk2 hb (fun x hx => hlt x (by simp [hx]))) trodAll_mk0))), rfl, hb.frame _, fun h => by cases h⟩

theorem over  : Rows.layBackRow.holds Tryd.pinned (OpenSpec.ofChange Rows.layBackSpec) :=
  OpenClaim.holds_of_wide 4 Tryd.f4 rfl rfl rfl rfl rfl rfl rfl ⟨rfl, rfl, rfl, rfl, rfl⟩ rfl rfl rfl rfl rfl (by kernel_rfl) Tryd.func4 (by kernel_rfl)
    (of_decide_eq_true (by kernel_rfl)) (by unfold Func.isWrapper; first | (rw [if_pos (by decide +kernel)]; kernel_rfl) | (rw [if_neg (by decide +kernel)]; exact ⟨rfl, rfl⟩))
    (fun os started H enc _ => lifted os started H enc)
end Go.Proofs.YtoigpehpgpogfaaDoor.layBack

namespace Go.Proofs.YtoigpehpgpogfaaDoor
open Go
theorem layBack_holds  : Rows.LayBackCardSaid :=
  Claim7.holds_tied_plain_at .later [] [.handle] true (true, "828cfaca2ec0a535c32c165533ea3943899236d375b01d9608f80533f8e4634b") true
    layBack.over (fun _ h => by cases h) (by kernel_rfl) (fun _ h => by cases h) layBack_row_tie rfl ⟨rfl, rfl⟩ (by kernel_rfl) rfl
    (fun f fn hf hfn => by
      obtain rfl : f = 4 := Option.some.inj ((show Tryd.prog.funcNamed "chatelaine/chatelainelaw11.LayBack" = some 4 by kernel_rfl).symm.trans hf) |>.symm
      obtain rfl : fn = Tryd.f4 := (Option.some.inj (Tryd.func4.symm.trans hfn)).symm
      exact ⟨by kernel_rfl, fun j t ht => by
        rw [Tryd.params4] at ht
        have hm : t ∈ [3, 3, 22] := by simpa using Array.mem_of_getElem? ht
        have hall : ([3, 3, 22].all fun u => !Tryd.prog.wantsStandIn u) = true := by kernel_rfl
        exact (show Tryd.prog.wantsStandIn t = false by simpa using List.all_eq_true.1 hall t hm)⟩)
    (by kernel_rfl)
#print axioms layBack_holds
end Go.Proofs.YtoigpehpgpogfaaDoor
