/- Any numbers', parts' and texts' bytes, behind any bytes, are the document's own, and what is answered shares no memory with what was handed in: for all bytes, lists of whole numbers and texts the law returns true, and the lists read behind the call as ahead of it. Conditions: the variable errors.errorType holds, when the call begins, what the errors package's own initialiser lays (the card ties it to the program's text, over the pruned copy of the project); nothing else is asked of the arguments. -/
import Derived.Test.YtmegjjfgiibobaaDoorLiftA
import Derived.Test.YtmegjjfgiibobaaDoorCards
import Derived.Test.YtmegjjfgiibobaaDoorTie
import Derived.Test.YtmegjjfgiibobaaDoorOk
import Derived.SevenTiedAt
namespace Go.Proofs.YtmegjjfgiibobaaDoor.codeLays
open Go.ChangeShapes Go.WideShapes Go.ChangeAt Go.RowKit Slices Go.Proofs.YtmegjjfgiibobaaDoor.Bit

theorem walk (A0 : Option Addr) (c0 n0 : Nat) (l0 : List Int) (A1 : Option Addr) (c1 n1 : Nat) (l1 : List Int) (A2 : Option Addr) (c2 n2 : Nat) (l2 : List Int) (A3 : Option Addr) (c3 n3 : Nat) (l3 : List Int) (s4 : ByteArray) (w : World) (h0 : Has .u8 w w.heap.size A0 l0) (e0 : l0.length = n0) (m0 : n0 ≤ c0) (k0 : A0 = none → n0 = 0 ∧ c0 = 0) (b0 : n0 ≤ 4611686018427387904) (_f0 : Fit 8 l0) (h1 : Has .i64 w w.heap.size A1 l1) (e1 : l1.length = n1) (m1 : n1 ≤ c1) (k1 : A1 = none → n1 = 0 ∧ c1 = 0) (b1 : n1 ≤ 4611686018427387904) (h2 : Has .u8 w w.heap.size A2 l2) (e2 : l2.length = n2) (m2 : n2 ≤ c2) (k2 : A2 = none → n2 = 0 ∧ c2 = 0) (b2 : n2 ≤ 4611686018427387904) (_f2 : Fit 8 l2) (h3 : Has .u8 w w.heap.size A3 l3) (e3 : l3.length = n3) (m3 : n3 ≤ c3) (k3 : A3 = none → n3 = 0 ∧ c3 = 0) (b3 : n3 ≤ 4611686018427387904) (_f3 : Fit 8 l3) (b4 : s4.size ≤ 4611686018427387904) (hg : Han w) :
    Calls Tryd.prog 3 #[.slice A0 n0 c0, .slice A1 n1 c1, .slice A2 n2 c2, .slice A3 n3 c3, .string s4] w fun e w' => e = .returned (.bool true) ∧ Below w.heap.size w w' := by
  by_cases h : 300 < n0 ∨ 20 < n1 ∨ 300 < n2 ∨ 300 < n3 ∨ 300 < s4.size
  · exact codeLays_big codeOk A0 A1 A2 A3 n0 n1 n2 n3 c0 c1 c2 c3 s4 w b0 b1 b2 b3 b4 h hg
  · exact codeLays_small codeOk A0 A1 A2 A3 n0 n1 n2 n3 c0 c1 c2 c3 l0 l1 l2 l3 s4 w ⟨e0.symm, h0, k0, m0, by omega⟩ e1.symm h1 k1 m1 ⟨e2.symm, h2, k2, m2, by omega⟩ ⟨e3.symm, h3, k3, m3, by omega⟩ (by omega) (by omega) (by omega) (by omega) (by omega) hg

set_option maxRecDepth 100000 in
theorem lifted  (os : Os) (started : os.Started) (H : Type) (enc : TypeId × Value → H) :
    ReturnsInHanded {} Tryd.checked os 3 .any (fun w args => (Rows.codeLaysSpec.pre enc Tryd.prog Tryd.f3 [] false w args ∧ laidMetH Tryd.prog laidR w) ∧ sizedMet enc Tryd.prog Tryd.f3 (OpenSpec.ofChange Rows.codeLaysSpec) false w args) (Rows.codeLaysSpec.post enc Tryd.prog Tryd.f3 false true false false) := by
  refine returnsInHanded_of_change_and (C := Tryd.checked) (X := fun w _ => laidMetH Tryd.prog laidR w) (fun _ _ _ hh h => h.of_heap hh) Tryd.own started (by kernel_rfl) Tryd.func3
    (ChangeSpec.witness_at (enc := enc) (C := Tryd.checked) (os := os) (X := fun w _ => laidMetH Tryd.prog laidR w) false (laidWorld os) #[.slice none 0 0, .slice none 0 0, .slice none 0 0, .slice none 0 0, .string ByteArray.empty] 8 rfl (by kernel_rfl) (by kernel_rfl) (by kernel_rfl) (by kernel_rfl) (by kernel_rfl) (laidWorld_met os _)) ?_
  intro W base args ds gs before hval0 hW _ hsz0 hL _
  have hsz : (DataW.weightsEach Tryd.prog (Tryd.f3.params.toList ++ Rows.codeLaysSpec.plain.varTypes Tryd.prog) (ds ++ gs)).all (· ≤ reachBytes) = true := hsz0
  clear hsz0
  have hval : ∀ (j : Nat) t v, Tryd.f3.params[j]? = some t → args[j]? = some v → Value.okWide Tryd.prog W .any base t v := hval0
  have hW' := hW
  obtain ⟨p, q, hA0, hV, rfl, _, _⟩ := hW
  have hA : DataW.TrodAll enc Tryd.prog W 0 (fun _ => true) true Tryd.f3.params.toList args.toList ds p := hA0
  rw [Tryd.params3] at hA hval hsz
  obtain ⟨v0, vs0, d0, ds0, p0, q0, hargs, rfl, rfl, g0, r0⟩ := trodAll_cons hA
  obtain ⟨v1, vs1, d1, ds1, p1, q1, rfl, rfl, rfl, g1, r1⟩ := trodAll_cons r0
  obtain ⟨v2, vs2, d2, ds2, p2, q2, rfl, rfl, rfl, g2, r2⟩ := trodAll_cons r1
  obtain ⟨v3, vs3, d3, ds3, p3, q3, rfl, rfl, rfl, g3, r3⟩ := trodAll_cons r2
  obtain ⟨v4, vs4, d4, ds4, p4, q4, rfl, rfl, rfl, g4, r4⟩ := trodAll_cons r3
  obtain ⟨rfl, rfl, rfl⟩ := trodAll_nil r4
  obtain rfl : args = #[v0, v1, v2, v3, v4] := by cases args; simp_all
  obtain ⟨rfl, rfl⟩ := trodVars_none hV
  obtain ⟨A0, n0, c0, rfl⟩ := okWide_slice Tryd.underlying22 (hval 0 22 v0 rfl rfl)
  have gk0 := g0
  obtain ⟨fu0, hf0⟩ := g0
  obtain ⟨A1, n1, c1, rfl⟩ := okWide_slice Tryd.underlying23 (hval 1 23 v1 rfl rfl)
  have gk1 := g1
  obtain ⟨fu1, hf1⟩ := g1
  obtain ⟨A2, n2, c2, rfl⟩ := okWide_slice Tryd.underlying22 (hval 2 22 v2 rfl rfl)
  have gk2 := g2
  obtain ⟨fu2, hf2⟩ := g2
  obtain ⟨A3, n3, c3, rfl⟩ := okWide_slice Tryd.underlying22 (hval 3 22 v3 rfl rfl)
  have gk3 := g3
  obtain ⟨fu3, hf3⟩ := g3
  obtain ⟨s4, rfl, rfl, rfl, hs4⟩ := Go.ChangeMaps.open_string Tryd.underlying9 (hval 4 9 v4 rfl rfl) g4
  clear hA0 hval0
  simp only [List.append_nil] at hW'
  have hlt : ∀ x ∈ p0 ++ p1 ++ p2 ++ p3, x.block < W.heap.size := fun x hx => by first | exact hW'.lt x hx | (simpa using hW'.lt x hx) | exact hW'.lt x (by simpa using hx)
  obtain ⟨l0, e0, m0, k0, cell0, dd0, wf0⟩ := view Tryd.underlying22 Tryd.underlying5 Tryd.cells5 hf0
  have b0 : n0 ≤ 4611686018427387904 := by
    rcases dd0 with ⟨_, h⟩ | ⟨sp, h⟩
    · omega
    · have := sized_slice hsz (j := 0) (t := 22) (e := 5) rfl (by rw [h]; rfl) Tryd.underlying22
      rw [Tryd.bytes5] at this
      simp only [lits, List.length_map, e0, reachBytes] at this
      omega
  obtain ⟨l1, e1, m1, k1, cell1, dd1, _⟩ := view Tryd.underlying23 Tryd.underlying3 Tryd.cells3 hf1
  have b1 : n1 ≤ 4611686018427387904 := by
    rcases dd1 with ⟨_, h⟩ | ⟨sp, h⟩
    · omega
    · have := sized_slice hsz (j := 1) (t := 23) (e := 3) rfl (by rw [h]; rfl) Tryd.underlying23
      rw [Tryd.bytes3] at this
      simp only [lits, List.length_map, e1, reachBytes] at this
      omega
  obtain ⟨l2, e2, m2, k2, cell2, dd2, wf2⟩ := view Tryd.underlying22 Tryd.underlying5 Tryd.cells5 hf2
  have b2 : n2 ≤ 4611686018427387904 := by
    rcases dd2 with ⟨_, h⟩ | ⟨sp, h⟩
    · omega
    · have := sized_slice hsz (j := 2) (t := 22) (e := 5) rfl (by rw [h]; rfl) Tryd.underlying22
      rw [Tryd.bytes5] at this
      simp only [lits, List.length_map, e2, reachBytes] at this
      omega
  obtain ⟨l3, e3, m3, k3, cell3, dd3, wf3⟩ := view Tryd.underlying22 Tryd.underlying5 Tryd.cells5 hf3
  have b3 : n3 ≤ 4611686018427387904 := by
    rcases dd3 with ⟨_, h⟩ | ⟨sp, h⟩
    · omega
    · have := sized_slice hsz (j := 3) (t := 22) (e := 5) rfl (by rw [h]; rfl) Tryd.underlying22
      rw [Tryd.bytes5] at this
      simp only [lits, List.length_map, e3, reachBytes] at this
      omega
  have b4 : s4.size ≤ 4611686018427387904 := by
    have := sized_string hsz (j := 4) (t := 9) rfl rfl
    have e : s4.data.toList.length = s4.size := Array.length_toList
    rw [e] at this
    simp only [reachBytes] at this
    omega
  refine (walk A0 c0 n0 l0 A1 c1 n1 l1 A2 c2 n2 l2 A3 c3 n3 l3 s4 W (view_has e0 cell0 fun h => (k0 h).1) e0 m0 k0 b0 (view_fit e0 wf0) (view_has e1 cell1 fun h => (k1 h).1) e1 m1 k1 b1 (view_has e2 cell2 fun h => (k2 h).1) e2 m2 k2 b2 (view_fit e2 wf2) (view_has e3 cell3 fun h => (k3 h).1) e3 m3 k3 b3 (view_fit e3 wf3) b4 (han_of hL)).mono fun e W' ⟨he, hb⟩ => ?_
  subst he
  refine ⟨_, rfl, _, _, _, _, _, [], hW', trodAll_mk1 (shut_bool Tryd.underlying4 _), (trodAll_cons_mk (Below.trod Tryd.laidOut (by kernel_rfl) (of_decide_eq_true (by kernel_rfl)) gk0 hb (fun x hx => hlt x (by simp [hx]))) (trodAll_cons_mk (Below.trod Tryd.laidOut (by kernel_rfl) (of_decide_eq_true (by kernel_rfl)) gk1 hb (fun x hx => hlt x (by simp [hx]))) (trodAll_cons_mk (Below.trod Tryd.laidOut (by kernel_rfl) (of_decide_eq_true (by kernel_rfl)) gk2 hb (fun x hx => hlt x (by simp [hx]))) (trodAll_cons_mk (Below.trod Tryd.laidOut (by kernel_rfl) (of_decide_eq_true (by kernel_rfl)) gk3 hb (fun x hx => hlt x (by simp [hx]))) (trodAll_cons_mk (Go.ChangeMaps.shut_string Tryd.underlying9 hs4) trodAll_mk0))))), rfl, hb.frame _, fun h => by cases h⟩

theorem over  : Rows.codeLaysRow.holds Tryd.pinned (OpenSpec.ofChange Rows.codeLaysSpec) :=
  OpenClaim.holds_of_wide 3 Tryd.f3 rfl rfl rfl rfl rfl rfl rfl ⟨rfl, rfl, rfl, rfl, rfl⟩ rfl rfl rfl rfl rfl (by kernel_rfl) Tryd.func3 (by kernel_rfl)
    (of_decide_eq_true (by kernel_rfl)) (by unfold Func.isWrapper; first | (rw [if_pos (by decide +kernel)]; kernel_rfl) | (rw [if_neg (by decide +kernel)]; exact ⟨rfl, rfl⟩))
    (fun os started H enc _ => lifted os started H enc)
end Go.Proofs.YtmegjjfgiibobaaDoor.codeLays

namespace Go.Proofs.YtmegjjfgiibobaaDoor
open Go
theorem codeLays_holds  : Rows.CodeLaysCardSaid :=
  Claim7.holds_tied_plain_at .later [] [.handle] true (true, "2375de28a90baa943f19882f8dbb93d9256b33c85e6ab0d468cb402e653d50f5") true
    codeLays.over (fun _ h => by cases h) (by kernel_rfl) (fun _ h => by cases h) codeLays_row_tie rfl ⟨rfl, rfl⟩ (by kernel_rfl) rfl
    (fun f fn hf hfn => by
      obtain rfl : f = 3 := Option.some.inj ((show Tryd.prog.funcNamed "chatelaine/chatelainelaw14.CodeLays" = some 3 by kernel_rfl).symm.trans hf) |>.symm
      obtain rfl : fn = Tryd.f3 := (Option.some.inj (Tryd.func3.symm.trans hfn)).symm
      exact ⟨by kernel_rfl, fun j t ht => by
        rw [Tryd.params3] at ht
        have hm : t ∈ [22, 23, 22, 22, 9] := by simpa using Array.mem_of_getElem? ht
        have hall : ([22, 23, 22, 22, 9].all fun u => !Tryd.prog.wantsStandIn u) = true := by kernel_rfl
        exact (show Tryd.prog.wantsStandIn t = false by simpa using List.all_eq_true.1 hall t hm)⟩)
    (by kernel_rfl)
#print axioms codeLays_holds
end Go.Proofs.YtmegjjfgiibobaaDoor
