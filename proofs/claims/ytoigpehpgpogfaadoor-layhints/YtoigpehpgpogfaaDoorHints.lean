/- Any hints' bytes, any bytes' hints, and any high parts' bytes are the document's own, or refused by its errors: for all whole numbers, lists of lists of whole numbers and bytes the law returns true, and both lists read behind the call as ahead of it. Conditions: the variable errors.errorType holds, when the call begins, what the errors package's own initialiser lays (the card ties it to the program's text, over the pruned copy of the project); nothing else is asked of the arguments. -/
import Derived.Test.YtoigpehpgpogfaaDoorLiftL
import Derived.Test.YtoigpehpgpogfaaDoorCards
import Derived.Test.YtoigpehpgpogfaaDoorTie
import Derived.Test.YtoigpehpgpogfaaDoorOc
import Derived.Test.YtoigpehpgpogfaaDoorOd
import Derived.SevenTiedAt
namespace Go.Proofs.YtoigpehpgpogfaaDoor.layHints
open Go.ChangeShapes Go.WideShapes Go.ChangeAt Go.RowKit Slices Go.Proofs.YtoigpehpgpogfaaDoor.Bit

theorem walk (x0 : Int) (A1 : Option Addr) (c1 n1 : Nat) (l1 : List Ent) (A2 : Option Addr) (c2 n2 : Nat) (l2 : List Int) (w : World) (h1 : HasL w w.heap.size A1 l1) (e1 : l1.length = n1) (_m1 : n1 ≤ c1) (_k1 : A1 = none → n1 = 0 ∧ c1 = 0) (b1 : n1 ≤ 4611686018427387904) (q1 : ∀ i (h : i < l1.length), l1[i].l.length ≤ maxLen) (h2 : Has .u8 w w.heap.size A2 l2) (e2 : l2.length = n2) (_m2 : n2 ≤ c2) (_k2 : A2 = none → n2 = 0 ∧ c2 = 0) (b2 : n2 ≤ 4611686018427387904) (f2 : Fit 8 l2) (hg : Han w) :
    Calls Tryd.prog 5 #[.int .i64 x0, .slice A1 n1 c1, .slice A2 n2 c2] w fun e w' => e = .returned (.bool true) ∧ Below w.heap.size w w' := by
  subst e1
  subst e2
  by_cases h : (l1.length ≤ 10 ∧ ∀ i (h : i < l1.length), l1[i].l.length ≤ 300) ∧ l2.length ≤ 300
  · exact layHints_small layOk2 x0 A1 A2 c1 c2 l1 l2 w h1 h2 f2 h.1.1 h.1.2 h.2 _m2 hg
  · refine layHints_big layOk2 x0 A1 A2 c1 c2 _ l1 w h1 b1 q1 b2 hg ?_
    by_cases g : l1.length ≤ 10 ∧ ∀ i (h : i < l1.length), l1[i].l.length ≤ 300
    · exact .inr (by rcases Nat.lt_or_ge 300 l2.length with q | q; exact q; exact absurd ⟨g, q⟩ h)
    · exact .inl g

set_option maxRecDepth 100000 in
theorem lifted  (os : Os) (started : os.Started) (H : Type) (enc : TypeId × Value → H) :
    ReturnsInHanded {} Tryd.checked os 5 .any (fun w args => (Rows.layHintsSpec.pre enc Tryd.prog Tryd.f5 [] false w args ∧ laidMetH Tryd.prog laidR w) ∧ sizedMet enc Tryd.prog Tryd.f5 (OpenSpec.ofChange Rows.layHintsSpec) false w args) (Rows.layHintsSpec.post enc Tryd.prog Tryd.f5 false true false false) := by
  refine returnsInHanded_of_change_and (C := Tryd.checked) (X := fun w _ => laidMetH Tryd.prog laidR w) (fun _ _ _ hh h => h.of_heap hh) Tryd.own started (by kernel_rfl) Tryd.func5
    (ChangeSpec.witness_at (enc := enc) (C := Tryd.checked) (os := os) (X := fun w _ => laidMetH Tryd.prog laidR w) false (laidWorld os) #[.int .i64 0, .slice none 0 0, .slice none 0 0] 8 rfl (by kernel_rfl) (by kernel_rfl) (by kernel_rfl) (by kernel_rfl) (by kernel_rfl) (laidWorld_met os _)) ?_
  intro W base args ds gs before hval0 hW _ hsz0 hL _
  have hsz : (DataW.weightsEach Tryd.prog (Tryd.f5.params.toList ++ Rows.layHintsSpec.plain.varTypes Tryd.prog) (ds ++ gs)).all (· ≤ reachBytes) = true := hsz0
  clear hsz0
  have hval : ∀ (j : Nat) t v, Tryd.f5.params[j]? = some t → args[j]? = some v → Value.okWide Tryd.prog W .any base t v := hval0
  have hW' := hW
  obtain ⟨p, q, hA0, hV, rfl, _, _⟩ := hW
  have hA : DataW.TrodAll enc Tryd.prog W 0 (fun _ => true) true Tryd.f5.params.toList args.toList ds p := hA0
  rw [Tryd.params5] at hA hval hsz
  obtain ⟨v0, vs0, d0, ds0, p0, q0, hargs, rfl, rfl, g0, r0⟩ := trodAll_cons hA
  obtain ⟨v1, vs1, d1, ds1, p1, q1, rfl, rfl, rfl, g1, r1⟩ := trodAll_cons r0
  obtain ⟨v2, vs2, d2, ds2, p2, q2, rfl, rfl, rfl, g2, r2⟩ := trodAll_cons r1
  obtain ⟨rfl, rfl, rfl⟩ := trodAll_nil r2
  obtain rfl : args = #[v0, v1, v2] := by cases args; simp_all
  obtain ⟨rfl, rfl⟩ := trodVars_none hV
  obtain ⟨x0, rfl, rfl, rfl, wf0⟩ := open_int Tryd.underlying3 (hval 0 3 v0 rfl rfl) g0
  obtain ⟨A1, n1, c1, rfl⟩ := okWide_slice Tryd.underlying45 (hval 1 45 v1 rfl rfl)
  have gk1 := g1
  obtain ⟨fu1, hf1⟩ := g1
  obtain ⟨A2, n2, c2, rfl⟩ := okWide_slice Tryd.underlying23 (hval 2 23 v2 rfl rfl)
  have gk2 := g2
  obtain ⟨fu2, hf2⟩ := g2
  clear hA0 hval0
  simp only [List.append_nil] at hW'
  have hlt : ∀ x ∈ p1 ++ p2, x.block < W.heap.size := fun x hx => by first | exact hW'.lt x hx | (simpa using hW'.lt x hx) | exact hW'.lt x (by simpa using hx)
  obtain ⟨l1, e1, m1, k1, cell1, q1, dd1⟩ := viewL hf1
  have b1 : n1 ≤ 4611686018427387904 := by
    rcases dd1 with ⟨_, h⟩ | ⟨ds, sp, h, hl⟩
    · omega
    · have := sized_slice hsz (j := 1) (t := 45) (e := 22) rfl (by rw [h]; rfl) Tryd.underlying45
      rw [Tryd.bytesInts] at this
      simp only [hl, reachBytes] at this
      omega
  obtain ⟨l2, e2, m2, k2, cell2, dd2, wf2⟩ := view Tryd.underlying23 Tryd.underlying5 Tryd.cells5 hf2
  have b2 : n2 ≤ 4611686018427387904 := by
    rcases dd2 with ⟨_, h⟩ | ⟨sp, h⟩
    · omega
    · have := sized_slice hsz (j := 2) (t := 23) (e := 5) rfl (by rw [h]; rfl) Tryd.underlying23
      rw [Tryd.bytes5] at this
      simp only [lits, List.length_map, e2, reachBytes] at this
      omega
  refine (walk x0 A1 c1 n1 l1 A2 c2 n2 l2 W cell1 e1 m1 k1 b1 q1 (view_has e2 cell2 fun h => (k2 h).1) e2 m2 k2 b2 (view_fit e2 wf2) (han_of hL)).mono fun e W' ⟨he, hb⟩ => ?_
  subst he
  refine ⟨_, rfl, _, _, _, _, _, [], hW', trodAll_mk1 (shut_bool Tryd.underlying4 _), (trodAll_cons_mk (shut_int Tryd.underlying3 wf0) (trodAll_cons_mk (Below.trod Tryd.laidOut (by kernel_rfl) (of_decide_eq_true (by kernel_rfl)) gk1 hb (fun x hx => hlt x (by simp [hx]))) (trodAll_cons_mk (Below.trod Tryd.laidOut (by kernel_rfl) (of_decide_eq_true (by kernel_rfl)) gk2 hb (fun x hx => hlt x (by simp [hx]))) trodAll_mk0))), rfl, hb.frame _, fun h => by cases h⟩

theorem over  : Rows.layHintsRow.holds Tryd.pinned (OpenSpec.ofChange Rows.layHintsSpec) :=
  OpenClaim.holds_of_wide 5 Tryd.f5 rfl rfl rfl rfl rfl rfl rfl ⟨rfl, rfl, rfl, rfl, rfl⟩ rfl rfl rfl rfl rfl (by kernel_rfl) Tryd.func5 (by kernel_rfl)
    (of_decide_eq_true (by kernel_rfl)) (by unfold Func.isWrapper; first | (rw [if_pos (by decide +kernel)]; kernel_rfl) | (rw [if_neg (by decide +kernel)]; exact ⟨rfl, rfl⟩))
    (fun os started H enc _ => lifted os started H enc)
end Go.Proofs.YtoigpehpgpogfaaDoor.layHints

namespace Go.Proofs.YtoigpehpgpogfaaDoor
open Go
theorem layHints_holds  : Rows.LayHintsCardSaid :=
  Claim7.holds_tied_plain_at .later [] [.handle] true (true, "828cfaca2ec0a535c32c165533ea3943899236d375b01d9608f80533f8e4634b") true
    layHints.over (fun _ h => by cases h) (by kernel_rfl) (fun _ h => by cases h) layHints_row_tie rfl ⟨rfl, rfl⟩ (by kernel_rfl) rfl
    (fun f fn hf hfn => by
      obtain rfl : f = 5 := Option.some.inj ((show Tryd.prog.funcNamed "chatelaine/chatelainelaw11.LayHints" = some 5 by kernel_rfl).symm.trans hf) |>.symm
      obtain rfl : fn = Tryd.f5 := (Option.some.inj (Tryd.func5.symm.trans hfn)).symm
      exact ⟨by kernel_rfl, fun j t ht => by
        rw [Tryd.params5] at ht
        have hm : t ∈ [3, 45, 23] := by simpa using Array.mem_of_getElem? ht
        have hall : ([3, 45, 23].all fun u => !Tryd.prog.wantsStandIn u) = true := by kernel_rfl
        exact (show Tryd.prog.wantsStandIn t = false by simpa using List.all_eq_true.1 hall t hm)⟩)
    (by kernel_rfl)
#print axioms layHints_holds
end Go.Proofs.YtoigpehpgpogfaaDoor
