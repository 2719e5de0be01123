/- Which lists of tenants may be, what one more makes of them, and who is above whom is the document's own answer: for all lists of tenants, whole numbers and texts the law returns true, and the list reads behind the call as ahead of it. Conditions: the variable errors.errorType holds, when the call begins, what the errors package's own initialiser lays (the card ties it to the program's text, over the pruned copy of the project); nothing else is asked of the arguments. -/
import Derived.Test.YtjpmglnhnfnmnaaDoorLift
import Derived.Test.YtjpmglnhnfnmnaaDoorCards
import Derived.Test.YtjpmglnhnfnmnaaDoorTie
import Derived.Test.YtjpmglnhnfnmnaaDoorOk
import Derived.SevenTiedAt
namespace Go.Proofs.YtjpmglnhnfnmnaaDoor.tenantsTell
open Go.ChangeShapes Go.WideShapes Go.ChangeAt Go.RowKit Slices

theorem walk (A0 : Option Addr) (c0 n0 : Nat) (l0 : List Ten) (x1 : Int) (s2 : ByteArray) (x3 : Int) (x4 : Int) (w : World) (h0 : HasT w w.heap.size A0 l0) (e0 : n0 = l0.length) (m0 : n0 ≤ c0) (k0 : A0 = none → n0 = 0 ∧ c0 = 0) (b0 : n0 ≤ 4611686018427387904) (f0 : ∀ k, k < n0 → I64 (tg l0 k).id ∧ I64 (tg l0 k).par) (y1 : I64 x1) (b2 : s2.size ≤ 4611686018427387904) (y3 : I64 x3) (y4 : I64 x4) (hg : Han w) :
    Calls Tryd.prog 3 #[.slice A0 n0 c0, .int .i64 x1, .string s2, .int .i64 x3, .int .i64 x4] w fun e w' => e = .returned (.bool true) ∧ Below w.heap.size w w' := by
  exact tenantsTell_any tenantsOk A0 n0 c0 l0 x1 s2 x3 x4 w e0 b0 h0 k0 m0 f0 y1 b2 y3 y4 hg

set_option maxRecDepth 100000 in
theorem lifted  (os : Os) (started : os.Started) (H : Type) (enc : TypeId × Value → H) :
    ReturnsInHanded {} Tryd.checked os 3 .any (fun w args => (Rows.tenantsTellSpec.pre enc Tryd.prog Tryd.f3 [] false w args ∧ laidMetH Tryd.prog laidR w) ∧ sizedMet enc Tryd.prog Tryd.f3 (OpenSpec.ofChange Rows.tenantsTellSpec) false w args) (Rows.tenantsTellSpec.post enc Tryd.prog Tryd.f3 false true false false) := by
  refine returnsInHanded_of_change_and (C := Tryd.checked) (X := fun w _ => laidMetH Tryd.prog laidR w) (fun _ _ _ hh h => h.of_heap hh) Tryd.own started (by kernel_rfl) Tryd.func3
    (ChangeSpec.witness_at (enc := enc) (C := Tryd.checked) (os := os) (X := fun w _ => laidMetH Tryd.prog laidR w) false (laidWorld os) #[.slice none 0 0, .int .i64 0, .string ByteArray.empty, .int .i64 0, .int .i64 0] 8 rfl (by kernel_rfl) (by kernel_rfl) (by kernel_rfl) (by kernel_rfl) (by kernel_rfl) (laidWorld_met os _)) ?_
  intro W base args ds gs before hval0 hW _ hsz0 hL _
  have hsz : (DataW.weightsEach Tryd.prog (Tryd.f3.params.toList ++ Rows.tenantsTellSpec.plain.varTypes Tryd.prog) (ds ++ gs)).all (· ≤ reachBytes) = true := hsz0
  clear hsz0
  have hval : ∀ (j : Nat) t v, Tryd.f3.params[j]? = some t → args[j]? = some v → Value.okWide Tryd.prog W .any base t v := hval0
  have hW' := hW
  obtain ⟨p, q, hA0, hV, rfl, _, _⟩ := hW
  have hA : DataW.TrodAll enc Tryd.prog W 0 (fun _ => true) true Tryd.f3.params.toList args.toList ds p := hA0
  rw [Tryd.params3] at hA hval hsz
  obtain ⟨v0, vs0, d0, ds0, p0, q0, hargs, rfl, rfl, g0, r0⟩ := trodAll_cons hA
  obtain ⟨v1, vs1, d1, ds1, p1, q1, rfl, rfl, rfl, g1, r1⟩ := trodAll_cons r0
  obtain ⟨v2, vs2, d2, ds2, p2, q2, rfl, rfl, rfl, g2, r2⟩ := trodAll_cons r1
  obtain ⟨v3, vs3, d3, ds3, p3, q3, rfl, rfl, rfl, g3, r3⟩ := trodAll_cons r2
  obtain ⟨v4, vs4, d4, ds4, p4, q4, rfl, rfl, rfl, g4, r4⟩ := trodAll_cons r3
  obtain ⟨rfl, rfl, rfl⟩ := trodAll_nil r4
  obtain rfl : args = #[v0, v1, v2, v3, v4] := by cases args; simp_all
  obtain ⟨rfl, rfl⟩ := trodVars_none hV
  obtain ⟨A0, n0, c0, rfl⟩ := okWide_slice Tryd.underlying22 (hval 0 22 v0 rfl rfl)
  have gk0 := g0
  obtain ⟨fu0, hf0⟩ := g0
  obtain ⟨x1, rfl, rfl, rfl, wf1⟩ := open_int Tryd.underlying3 (hval 1 3 v1 rfl rfl) g1
  obtain ⟨s2, rfl, rfl, rfl, hs2⟩ := Go.ChangeMaps.open_string Tryd.underlying9 (hval 2 9 v2 rfl rfl) g2
  obtain ⟨x3, rfl, rfl, rfl, wf3⟩ := open_int Tryd.underlying3 (hval 3 3 v3 rfl rfl) g3
  obtain ⟨x4, rfl, rfl, rfl, wf4⟩ := open_int Tryd.underlying3 (hval 4 3 v4 rfl rfl) g4
  clear hA0 hval0
  simp only [List.append_nil] at hW'
  have hlt : ∀ x ∈ p0, x.block < W.heap.size := fun x hx => by first | exact hW'.lt x hx | (simpa using hW'.lt x hx) | exact hW'.lt x (by simpa using hx)
  obtain ⟨l0, e0, m0, k0, cell0, fit0, dd0⟩ := viewT hf0
  have b0 : n0 ≤ 4611686018427387904 := by
    rcases dd0 with ⟨_, h⟩ | ⟨ds, sp, h, hl⟩
    · omega
    · have := sized_slice hsz (j := 0) (t := 22) (e := 46) rfl (by rw [h]; rfl) Tryd.underlying22
      rw [Tryd.bytesTen] at this
      simp only [hl, reachBytes] at this
      omega
  have b2 : s2.size ≤ 4611686018427387904 := by
    have := sized_string hsz (j := 2) (t := 9) rfl rfl
    have e : s2.data.toList.length = s2.size := Array.length_toList
    rw [e] at this
    simp only [reachBytes] at this
    omega
  refine (walk A0 c0 n0 l0 x1 s2 x3 x4 W cell0 e0 m0 k0 b0 fit0 (int_wf wf1) b2 (int_wf wf3) (int_wf wf4) (han_of hL)).mono fun e W' ⟨he, hb⟩ => ?_
  subst he
  refine ⟨_, rfl, _, _, _, _, _, [], hW', trodAll_mk1 (shut_bool Tryd.underlying4 _), (trodAll_cons_mk (Below.trod Tryd.laidOut (by kernel_rfl) (of_decide_eq_true (by kernel_rfl)) gk0 hb (fun x hx => hlt x (by simp [hx]))) (trodAll_cons_mk (shut_int Tryd.underlying3 wf1) (trodAll_cons_mk (Go.ChangeMaps.shut_string Tryd.underlying9 hs2) (trodAll_cons_mk (shut_int Tryd.underlying3 wf3) (trodAll_cons_mk (shut_int Tryd.underlying3 wf4) trodAll_mk0))))), rfl, hb.frame _, fun h => by cases h⟩

theorem over  : Rows.tenantsTellRow.holds Tryd.pinned (OpenSpec.ofChange Rows.tenantsTellSpec) :=
  OpenClaim.holds_of_wide 3 Tryd.f3 rfl rfl rfl rfl rfl rfl rfl ⟨rfl, rfl, rfl, rfl, rfl⟩ rfl rfl rfl rfl rfl (by kernel_rfl) Tryd.func3 (by kernel_rfl)
    (of_decide_eq_true (by kernel_rfl)) (by unfold Func.isWrapper; first | (rw [if_pos (by decide +kernel)]; kernel_rfl) | (rw [if_neg (by decide +kernel)]; exact ⟨rfl, rfl⟩))
    (fun os started H enc _ => lifted os started H enc)
end Go.Proofs.YtjpmglnhnfnmnaaDoor.tenantsTell

namespace Go.Proofs.YtjpmglnhnfnmnaaDoor
open Go
theorem tenantsTell_holds  : Rows.TenantsTellCardSaid :=
  Claim7.holds_tied_plain_at .later [] [.handle] true (true, "7ea76418fff75ebf69938dd375c9d6a61ae76f881fedd552794bb940c57f2be7") true
    tenantsTell.over (fun _ h => by cases h) (by kernel_rfl) (fun _ h => by cases h) tenantsTell_row_tie rfl ⟨rfl, rfl⟩ (by kernel_rfl) rfl
    (fun f fn hf hfn => by
      obtain rfl : f = 3 := Option.some.inj ((show Tryd.prog.funcNamed "chatelaine/chatelainelaw16.TenantsTell" = some 3 by kernel_rfl).symm.trans hf) |>.symm
      obtain rfl : fn = Tryd.f3 := (Option.some.inj (Tryd.func3.symm.trans hfn)).symm
      exact ⟨by kernel_rfl, fun j t ht => by
        rw [Tryd.params3] at ht
        have hm : t ∈ [22, 3, 9, 3, 3] := by simpa using Array.mem_of_getElem? ht
        have hall : ([22, 3, 9, 3, 3].all fun u => !Tryd.prog.wantsStandIn u) = true := by kernel_rfl
        exact (show Tryd.prog.wantsStandIn t = false by simpa using List.all_eq_true.1 hall t hm)⟩)
    (by kernel_rfl)
#print axioms tenantsTell_holds
end Go.Proofs.YtjpmglnhnfnmnaaDoor
