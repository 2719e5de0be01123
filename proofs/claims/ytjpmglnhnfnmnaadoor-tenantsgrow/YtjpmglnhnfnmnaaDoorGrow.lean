/- From one tenant on, whoever gets children, the list may be throughout, a child's path is its parent's and itself, and who is above goes along: for all lists of whole numbers and of texts, and all whole numbers, the law returns true, and both lists read behind the call as ahead of it. Conditions: the variable errors.errorType holds, when the call begins, what the errors package's own initialiser lays (the card ties it to the program's text, over the pruned copy of the project); nothing else is asked of the arguments. -/
import Derived.Test.YtjpmglnhnfnmnaaDoorLift
import Derived.Test.YtjpmglnhnfnmnaaDoorCards
import Derived.Test.YtjpmglnhnfnmnaaDoorTie
import Derived.Test.YtjpmglnhnfnmnaaDoorOk
import Derived.SevenTiedAt
namespace Go.Proofs.YtjpmglnhnfnmnaaDoor.tenantsGrow
open Go.ChangeShapes Go.WideShapes Go.ChangeAt Go.RowKit Slices

theorem walk (A0 : Option Addr) (c0 n0 : Nat) (l0 : List Int) (A1 : Option Addr) (c1 n1 : Nat) (l1 : List ByteArray) (x2 : Int) (x3 : Int) (x4 : Int) (w : World) (h0 : Has .i64 w w.heap.size A0 l0) (e0 : n0 = l0.length) (b0 : n0 ≤ 4611686018427387904) (h1 : HasS w w.heap.size A1 l1) (e1 : n1 = l1.length) (b1 : n1 ≤ 4611686018427387904) (_y2 : I64 x2) (_y3 : I64 x3) (_y4 : I64 x4) (hg : Han w) :
    Calls Tryd.prog 4 #[.slice A0 n0 c0, .slice A1 n1 c1, .int .i64 x2, .int .i64 x3, .int .i64 x4] w fun e w' => e = .returned (.bool true) ∧ Below w.heap.size w w' := by
  by_cases h : 20 < n0 ∨ 20 < n1
  · exact tenantsGrow_big tenantsOk A0 A1 n0 c0 n1 c1 x2 x3 x4 w b0 b1 h hg
  · exact tenantsGrow_small tenantsOk A0 A1 n0 c0 n1 c1 l0 l1 x2 x3 x4 w e0 h0 e1 h1 (by omega) (by omega) hg

set_option maxRecDepth 100000 in
theorem lifted  (os : Os) (started : os.Started) (H : Type) (enc : TypeId × Value → H) :
    ReturnsInHanded {} Tryd.checked os 4 .any (fun w args => (Rows.tenantsGrowSpec.pre enc Tryd.prog Tryd.f4 [] false w args ∧ laidMetH Tryd.prog laidR w) ∧ sizedMet enc Tryd.prog Tryd.f4 (OpenSpec.ofChange Rows.tenantsGrowSpec) false w args) (Rows.tenantsGrowSpec.post enc Tryd.prog Tryd.f4 false true false false) := by
  refine returnsInHanded_of_change_and (C := Tryd.checked) (X := fun w _ => laidMetH Tryd.prog laidR w) (fun _ _ _ hh h => h.of_heap hh) Tryd.own started (by kernel_rfl) Tryd.func4
    (ChangeSpec.witness_at (enc := enc) (C := Tryd.checked) (os := os) (X := fun w _ => laidMetH Tryd.prog laidR w) false (laidWorld os) #[.slice none 0 0, .slice none 0 0, .int .i64 0, .int .i64 0, .int .i64 0] 8 rfl (by kernel_rfl) (by kernel_rfl) (by kernel_rfl) (by kernel_rfl) (by kernel_rfl) (laidWorld_met os _)) ?_
  intro W base args ds gs before hval0 hW _ hsz0 hL _
  have hsz : (DataW.weightsEach Tryd.prog (Tryd.f4.params.toList ++ Rows.tenantsGrowSpec.plain.varTypes Tryd.prog) (ds ++ gs)).all (· ≤ reachBytes) = true := hsz0
  clear hsz0
  have hval : ∀ (j : Nat) t v, Tryd.f4.params[j]? = some t → args[j]? = some v → Value.okWide Tryd.prog W .any base t v := hval0
  have hW' := hW
  obtain ⟨p, q, hA0, hV, rfl, _, _⟩ := hW
  have hA : DataW.TrodAll enc Tryd.prog W 0 (fun _ => true) true Tryd.f4.params.toList args.toList ds p := hA0
  rw [Tryd.params4] at hA hval hsz
  obtain ⟨v0, vs0, d0, ds0, p0, q0, hargs, rfl, rfl, g0, r0⟩ := trodAll_cons hA
  obtain ⟨v1, vs1, d1, ds1, p1, q1, rfl, rfl, rfl, g1, r1⟩ := trodAll_cons r0
  obtain ⟨v2, vs2, d2, ds2, p2, q2, rfl, rfl, rfl, g2, r2⟩ := trodAll_cons r1
  obtain ⟨v3, vs3, d3, ds3, p3, q3, rfl, rfl, rfl, g3, r3⟩ := trodAll_cons r2
  obtain ⟨v4, vs4, d4, ds4, p4, q4, rfl, rfl, rfl, g4, r4⟩ := trodAll_cons r3
  obtain ⟨rfl, rfl, rfl⟩ := trodAll_nil r4
  obtain rfl : args = #[v0, v1, v2, v3, v4] := by cases args; simp_all
  obtain ⟨rfl, rfl⟩ := trodVars_none hV
  obtain ⟨A0, n0, c0, rfl⟩ := okWide_slice Tryd.underlying31 (hval 0 31 v0 rfl rfl)
  have gk0 := g0
  obtain ⟨fu0, hf0⟩ := g0
  obtain ⟨A1, n1, c1, rfl⟩ := okWide_slice Tryd.underlying40 (hval 1 40 v1 rfl rfl)
  have gk1 := g1
  obtain ⟨fu1, hf1⟩ := g1
  obtain ⟨x2, rfl, rfl, rfl, wf2⟩ := open_int Tryd.underlying3 (hval 2 3 v2 rfl rfl) g2
  obtain ⟨x3, rfl, rfl, rfl, wf3⟩ := open_int Tryd.underlying3 (hval 3 3 v3 rfl rfl) g3
  obtain ⟨x4, rfl, rfl, rfl, wf4⟩ := open_int Tryd.underlying3 (hval 4 3 v4 rfl rfl) g4
  clear hA0 hval0
  simp only [List.append_nil] at hW'
  have hlt : ∀ x ∈ p0 ++ p1, x.block < W.heap.size := fun x hx => by first | exact hW'.lt x hx | (simpa using hW'.lt x hx) | exact hW'.lt x (by simpa using hx)
  obtain ⟨l0, e0, m0, k0, cell0, dd0, _⟩ := view Tryd.underlying31 Tryd.underlying3 Tryd.cells3 hf0
  have b0 : n0 ≤ 4611686018427387904 := by
    rcases dd0 with ⟨_, h⟩ | ⟨sp, h⟩
    · omega
    · have := sized_slice hsz (j := 0) (t := 31) (e := 3) rfl (by rw [h]; rfl) Tryd.underlying31
      rw [Tryd.bytes3] at this
      simp only [lits, List.length_map, e0, reachBytes] at this
      omega
  obtain ⟨l1, e1, cell1, dd1⟩ := viewS hf1
  have b1 : n1 ≤ 4611686018427387904 := by
    rcases dd1 with ⟨_, h⟩ | ⟨ds, sp, h, hl⟩
    · omega
    · have := sized_slice hsz (j := 1) (t := 40) (e := 9) rfl (by rw [h]; rfl) Tryd.underlying40
      rw [Tryd.bytes9] at this
      simp only [hl, reachBytes] at this
      omega
  refine (walk A0 c0 n0 l0 A1 c1 n1 l1 x2 x3 x4 W (view_has e0 cell0 fun h => (k0 h).1) e0.symm b0 cell1 e1 b1 (int_wf wf2) (int_wf wf3) (int_wf wf4) (han_of hL)).mono fun e W' ⟨he, hb⟩ => ?_
  subst he
  refine ⟨_, rfl, _, _, _, _, _, [], hW', trodAll_mk1 (shut_bool Tryd.underlying4 _), (trodAll_cons_mk (Below.trod Tryd.laidOut (by kernel_rfl) (of_decide_eq_true (by kernel_rfl)) gk0 hb (fun x hx => hlt x (by simp [hx]))) (trodAll_cons_mk (Below.trod Tryd.laidOut (by kernel_rfl) (of_decide_eq_true (by kernel_rfl)) gk1 hb (fun x hx => hlt x (by simp [hx]))) (trodAll_cons_mk (shut_int Tryd.underlying3 wf2) (trodAll_cons_mk (shut_int Tryd.underlying3 wf3) (trodAll_cons_mk (shut_int Tryd.underlying3 wf4) trodAll_mk0))))), rfl, hb.frame _, fun h => by cases h⟩

theorem over  : Rows.tenantsGrowRow.holds Tryd.pinned (OpenSpec.ofChange Rows.tenantsGrowSpec) :=
  OpenClaim.holds_of_wide 4 Tryd.f4 rfl rfl rfl rfl rfl rfl rfl ⟨rfl, rfl, rfl, rfl, rfl⟩ rfl rfl rfl rfl rfl (by kernel_rfl) Tryd.func4 (by kernel_rfl)
    (of_decide_eq_true (by kernel_rfl)) (by unfold Func.isWrapper; first | (rw [if_pos (by decide +kernel)]; kernel_rfl) | (rw [if_neg (by decide +kernel)]; exact ⟨rfl, rfl⟩))
    (fun os started H enc _ => lifted os started H enc)
end Go.Proofs.YtjpmglnhnfnmnaaDoor.tenantsGrow

namespace Go.Proofs.YtjpmglnhnfnmnaaDoor
open Go
theorem tenantsGrow_holds  : Rows.TenantsGrowCardSaid :=
  Claim7.holds_tied_plain_at .later [] [.handle] true (true, "7ea76418fff75ebf69938dd375c9d6a61ae76f881fedd552794bb940c57f2be7") true
    tenantsGrow.over (fun _ h => by cases h) (by kernel_rfl) (fun _ h => by cases h) tenantsGrow_row_tie rfl ⟨rfl, rfl⟩ (by kernel_rfl) rfl
    (fun f fn hf hfn => by
      obtain rfl : f = 4 := Option.some.inj ((show Tryd.prog.funcNamed "chatelaine/chatelainelaw16.TenantsGrow" = some 4 by kernel_rfl).symm.trans hf) |>.symm
      obtain rfl : fn = Tryd.f4 := (Option.some.inj (Tryd.func4.symm.trans hfn)).symm
      exact ⟨by kernel_rfl, fun j t ht => by
        rw [Tryd.params4] at ht
        have hm : t ∈ [31, 40, 3, 3, 3] := by simpa using Array.mem_of_getElem? ht
        have hall : ([31, 40, 3, 3, 3].all fun u => !Tryd.prog.wantsStandIn u) = true := by kernel_rfl
        exact (show Tryd.prog.wantsStandIn t = false by simpa using List.all_eq_true.1 hall t hm)⟩)
    (by kernel_rfl)
#print axioms tenantsGrow_holds
end Go.Proofs.YtjpmglnhnfnmnaaDoor
