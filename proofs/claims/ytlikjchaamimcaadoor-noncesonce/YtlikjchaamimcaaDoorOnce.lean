/- Whatever numbers come, none is taken twice, and each one that may be taken and is not too old is: for all lists of whole numbers the law returns true, and the list reads behind the call as ahead of it. Conditions: the variable errors.errorType holds, when the call begins, what the errors package's own initialiser lays (the card ties it to the program's text, over the pruned copy of the project); nothing else is asked of the arguments. -/
import Derived.Test.YtlikjchaamimcaaDoorLift
import Derived.Test.YtlikjchaamimcaaDoorCards
import Derived.Test.YtlikjchaamimcaaDoorTie
import Derived.Test.YtlikjchaamimcaaDoorOk
import Derived.SevenTiedAt
namespace Go.Proofs.YtlikjchaamimcaaDoor.noncesOnce
open Go.ChangeShapes Go.WideShapes Go.ChangeAt Go.RowKit Slices

theorem walk (A0 : Option Addr) (c0 n0 : Nat) (l0 : List Int) (w : World) (h0 : Has .i64 w w.heap.size A0 l0) (e0 : l0.length = n0) (_m0 : n0 ≤ c0) (_k0 : A0 = none → n0 = 0 ∧ c0 = 0) (b0 : n0 ≤ 4611686018427387904) (f0 : ∀ i, i < n0 → I64 (l0.getD i 0)) (hg : Han w) :
    Calls Tryd.prog 4 #[.slice A0 n0 c0] w fun e w' => e = .returned (.bool true) ∧ Below w.heap.size w w' := by
  by_cases h : 80 < n0
  · exact noncesOnce_big noncesOk A0 n0 c0 w b0 h hg
  · exact noncesOnce_small noncesOk A0 n0 c0 l0 w e0.symm h0 f0 (by omega) hg

set_option maxRecDepth 100000 in
theorem lifted  (os : Os) (started : os.Started) (H : Type) (enc : TypeId × Value → H) :
    ReturnsInHanded {} Tryd.checked os 4 .any (fun w args => (Rows.noncesOnceSpec.pre enc Tryd.prog Tryd.f4 [] false w args ∧ laidMetH Tryd.prog laidR w) ∧ sizedMet enc Tryd.prog Tryd.f4 (OpenSpec.ofChange Rows.noncesOnceSpec) false w args) (Rows.noncesOnceSpec.post enc Tryd.prog Tryd.f4 false true false false) := by
  refine returnsInHanded_of_change_and (C := Tryd.checked) (X := fun w _ => laidMetH Tryd.prog laidR w) (fun _ _ _ hh h => h.of_heap hh) Tryd.own started (by kernel_rfl) Tryd.func4
    (ChangeSpec.witness_at (enc := enc) (C := Tryd.checked) (os := os) (X := fun w _ => laidMetH Tryd.prog laidR w) false (laidWorld os) #[.slice none 0 0] 8 rfl (by kernel_rfl) (by kernel_rfl) (by kernel_rfl) (by kernel_rfl) (by kernel_rfl) (laidWorld_met os _)) ?_
  intro W base args ds gs before hval0 hW _ hsz0 hL _
  have hsz : (DataW.weightsEach Tryd.prog (Tryd.f4.params.toList ++ Rows.noncesOnceSpec.plain.varTypes Tryd.prog) (ds ++ gs)).all (· ≤ reachBytes) = true := hsz0
  clear hsz0
  have hval : ∀ (j : Nat) t v, Tryd.f4.params[j]? = some t → args[j]? = some v → Value.okWide Tryd.prog W .any base t v := hval0
  have hW' := hW
  obtain ⟨p, q, hA0, hV, rfl, _, _⟩ := hW
  have hA : DataW.TrodAll enc Tryd.prog W 0 (fun _ => true) true Tryd.f4.params.toList args.toList ds p := hA0
  rw [Tryd.params4] at hA hval hsz
  obtain ⟨v0, vs0, d0, ds0, p0, q0, hargs, rfl, rfl, g0, r0⟩ := trodAll_cons hA
  obtain ⟨rfl, rfl, rfl⟩ := trodAll_nil r0
  obtain rfl : args = #[v0] := by cases args; simp_all
  obtain ⟨rfl, rfl⟩ := trodVars_none hV
  obtain ⟨A0, n0, c0, rfl⟩ := okWide_slice Tryd.underlying33 (hval 0 33 v0 rfl rfl)
  have gk0 := g0
  obtain ⟨fu0, hf0⟩ := g0
  clear hA0 hval0
  simp only [List.append_nil] at hW'
  have hlt : ∀ x ∈ p0, x.block < W.heap.size := fun x hx => by first | exact hW'.lt x hx | (simpa using hW'.lt x hx) | exact hW'.lt x (by simpa using hx)
  obtain ⟨l0, e0, m0, k0, cell0, dd0, wf0⟩ := view Tryd.underlying33 Tryd.underlying3 Tryd.cells3 hf0
  have b0 : n0 ≤ 4611686018427387904 := by
    rcases dd0 with ⟨_, h⟩ | ⟨sp, h⟩
    · omega
    · have := sized_slice hsz (j := 0) (t := 33) (e := 3) rfl (by rw [h]; rfl) Tryd.underlying33
      rw [Tryd.bytes3] at this
      simp only [lits, List.length_map, e0, reachBytes] at this
      omega
  refine (walk A0 c0 n0 l0 W (view_has e0 cell0 fun h => (k0 h).1) e0 m0 k0 b0 (fun i hi => int_wf (wf0 i hi)) (han_of hL)).mono fun e W' ⟨he, hb⟩ => ?_
  subst he
  refine ⟨_, rfl, _, _, _, _, _, [], hW', trodAll_mk1 (shut_bool Tryd.underlying4 _), (trodAll_cons_mk (Below.trod Tryd.laidOut (by kernel_rfl) (of_decide_eq_true (by kernel_rfl)) gk0 hb (fun x hx => hlt x (by simp [hx]))) trodAll_mk0), rfl, hb.frame _, fun h => by cases h⟩

theorem over  : Rows.noncesOnceRow.holds Tryd.pinned (OpenSpec.ofChange Rows.noncesOnceSpec) :=
  OpenClaim.holds_of_wide 4 Tryd.f4 rfl rfl rfl rfl rfl rfl rfl ⟨rfl, rfl, rfl, rfl, rfl⟩ rfl rfl rfl rfl rfl (by kernel_rfl) Tryd.func4 (by kernel_rfl)
    (of_decide_eq_true (by kernel_rfl)) (by unfold Func.isWrapper; first | (rw [if_pos (by decide +kernel)]; kernel_rfl) | (rw [if_neg (by decide +kernel)]; exact ⟨rfl, rfl⟩))
    (fun os started H enc _ => lifted os started H enc)
end Go.Proofs.YtlikjchaamimcaaDoor.noncesOnce

namespace Go.Proofs.YtlikjchaamimcaaDoor
open Go
theorem noncesOnce_holds  : Rows.NoncesOnceCardSaid :=
  Claim7.holds_tied_plain_at .later [] [.handle] true (true, "3dc1f2f23bee78fe3b8a25d811bb937887119f8c1cf6a48c230deacb0dd62bd5") true
    noncesOnce.over (fun _ h => by cases h) (by kernel_rfl) (fun _ h => by cases h) noncesOnce_row_tie rfl ⟨rfl, rfl⟩ (by kernel_rfl) rfl
    (fun f fn hf hfn => by
      obtain rfl : f = 4 := Option.some.inj ((show Tryd.prog.funcNamed "chatelaine/chatelainelaw18.NoncesOnce" = some 4 by kernel_rfl).symm.trans hf) |>.symm
      obtain rfl : fn = Tryd.f4 := (Option.some.inj (Tryd.func4.symm.trans hfn)).symm
      exact ⟨by kernel_rfl, fun j t ht => by
        rw [Tryd.params4] at ht
        have hm : t ∈ [33] := by simpa using Array.mem_of_getElem? ht
        have hall : ([33].all fun u => !Tryd.prog.wantsStandIn u) = true := by kernel_rfl
        exact (show Tryd.prog.wantsStandIn t = false by simpa using List.all_eq_true.1 hall t hm)⟩)
    (by kernel_rfl)
#print axioms noncesOnce_holds
end Go.Proofs.YtlikjchaamimcaaDoor
