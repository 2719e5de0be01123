/- What bits.Pack, Unpack, Low and Turn answer is the document's own answer: for every two whole numbers, every list of whole numbers and every list of bytes the law returns true, and both lists read behind the call as ahead of it. Conditions: none; of lists of more than 300 numbers or bytes the law itself asks nothing but its example. -/
import Derived.Test.YtkonbkmjodfcoaaLift
import Derived.Test.YtkonbkmjodfcoaaM
namespace Go.Proofs.Ytkonbkmjodfcoaa.bitsTell
open Go.ChangeShapes Go.WideShapes Go.ChangeAt Go.RowKit Slices Go.Proofs.Ytkonbkmjodfcoaa.Bit

theorem walk (x0 : Int) (A1 : Option Addr) (c1 n1 : Nat) (l1 : List Int) (A2 : Option Addr) (c2 n2 : Nat) (l2 : List Int) (x3 : Int) (w : World) (h1 : Has .i64 w w.heap.size A1 l1) (e1 : l1.length = n1) (_m1 : n1 ≤ c1) (_k1 : A1 = none → n1 = 0 ∧ c1 = 0) (b1 : n1 ≤ 4611686018427387904) (h2 : Has .u8 w w.heap.size A2 l2) (e2 : l2.length = n2) (_m2 : n2 ≤ c2) (_k2 : A2 = none → n2 = 0 ∧ c2 = 0) (b2 : n2 ≤ 4611686018427387904) (f2 : Fit 8 l2) :
    Calls Try.prog 3 #[.int .i64 x0, .slice A1 n1 c1, .slice A2 n2 c2, .int .i64 x3] w fun e w' => e = .returned (.bool true) ∧ Below w.heap.size w w' := by
  subst e1
  subst e2
  by_cases h : 300 < l1.length ∨ 300 < l2.length
  · exact tell_big x0 x3 A1 A2 c1 c2 _ _ w b1 b2 h
  · exact tell_small x0 x3 A1 A2 c1 c2 l1 l2 w h1 h2 _k1 _k2 (by omega) (by omega) f2

set_option maxRecDepth 100000 in
theorem lifted (os : Os) (started : os.Started) (H : Type) (enc : TypeId × Value → H) :
    ReturnsInHanded {} Try.checked os 3 .any (Rows.bitsTellSpec.pre6 enc Try.prog Try.f3 Rows.bitsTellRow.domain false) (Rows.bitsTellSpec.post enc Try.prog Try.f3 false true false false) := by
  refine returnsInHanded_of_change_sized (C := Try.checked) Try.own started (by kernel_rfl) Try.func3
    (ChangeSpec.witness6 (enc := enc) (C := Try.checked) false ⟨#[], #[.int .i64 0, .slice none 0 0, .slice none 0 0, .int .i64 0], []⟩ 8 (by kernel_rfl) (by kernel_rfl) (by kernel_rfl) (by kernel_rfl)) ?_
  intro W base args ds gs before hval0 hW _ hsz0 _
  have hsz : (DataW.weightsEach Try.prog (Try.f3.params.toList ++ Rows.bitsTellSpec.plain.varTypes Try.prog) (ds ++ gs)).all (· ≤ reachBytes) = true := hsz0
  clear hsz0
  have hval : ∀ (j : Nat) t v, Try.f3.params[j]? = some t → args[j]? = some v → Value.okWide Try.prog W .any base t v := hval0
  have hW' := hW
  obtain ⟨p, q, hA0, hV, rfl, _, _⟩ := hW
  have hA : DataW.TrodAll enc Try.prog W 0 (fun _ => true) true Try.f3.params.toList args.toList ds p := hA0
  rw [Try.params3] at hA hval hsz
  obtain ⟨v0, vs0, d0, ds0, p0, q0, hargs, rfl, rfl, g0, r0⟩ := trodAll_cons hA
  obtain ⟨v1, vs1, d1, ds1, p1, q1, rfl, rfl, rfl, g1, r1⟩ := trodAll_cons r0
  obtain ⟨v2, vs2, d2, ds2, p2, q2, rfl, rfl, rfl, g2, r2⟩ := trodAll_cons r1
  obtain ⟨v3, vs3, d3, ds3, p3, q3, rfl, rfl, rfl, g3, r3⟩ := trodAll_cons r2
  obtain ⟨rfl, rfl, rfl⟩ := trodAll_nil r3
  obtain rfl : args = #[v0, v1, v2, v3] := by cases args; simp_all
  obtain ⟨rfl, rfl⟩ := trodVars_none hV
  obtain ⟨x0, rfl, rfl, rfl, wf0⟩ := open_int Try.underlying3 (hval 0 3 v0 rfl rfl) g0
  obtain ⟨A1, n1, c1, rfl⟩ := okWide_slice Try.underlying22 (hval 1 22 v1 rfl rfl)
  have gk1 := g1
  obtain ⟨fu1, hf1⟩ := g1
  obtain ⟨A2, n2, c2, rfl⟩ := okWide_slice Try.underlying23 (hval 2 23 v2 rfl rfl)
  have gk2 := g2
  obtain ⟨fu2, hf2⟩ := g2
  obtain ⟨x3, rfl, rfl, rfl, wf3⟩ := open_int Try.underlying3 (hval 3 3 v3 rfl rfl) g3
  clear hA0 hval0
  simp only [List.append_nil] at hW'
  have hlt : ∀ x ∈ p1 ++ p2, x.block < W.heap.size := fun x hx => by first | exact hW'.lt x hx | (simpa using hW'.lt x hx) | exact hW'.lt x (by simpa using hx)
  obtain ⟨l1, e1, m1, k1, cell1, dd1, _⟩ := view Try.underlying22 Try.underlying3 Try.cells3 hf1
  have b1 : n1 ≤ 4611686018427387904 := by
    rcases dd1 with ⟨_, h⟩ | ⟨sp, h⟩
    · omega
    · have := sized_slice hsz (j := 1) (t := 22) (e := 3) rfl (by rw [h]; rfl) Try.underlying22
      rw [Try.bytes3] at this
      simp only [lits, List.length_map, e1, reachBytes] at this
      omega
  obtain ⟨l2, e2, m2, k2, cell2, dd2, wf2⟩ := view Try.underlying23 Try.underlying5 Try.cells5 hf2
  have b2 : n2 ≤ 4611686018427387904 := by
    rcases dd2 with ⟨_, h⟩ | ⟨sp, h⟩
    · omega
    · have := sized_slice hsz (j := 2) (t := 23) (e := 5) rfl (by rw [h]; rfl) Try.underlying23
      rw [Try.bytes5] at this
      simp only [lits, List.length_map, e2, reachBytes] at this
      omega
  refine (walk x0 A1 c1 n1 l1 A2 c2 n2 l2 x3 W (view_has e1 cell1 fun h => (k1 h).1) e1 m1 k1 b1 (view_has e2 cell2 fun h => (k2 h).1) e2 m2 k2 b2 (view_fit e2 wf2)).mono fun e W' ⟨he, hb⟩ => ?_
  subst he
  refine ⟨_, rfl, _, _, _, _, _, [], hW', trodAll_mk1 (shut_bool Try.underlying4 _), (trodAll_cons_mk (shut_int Try.underlying3 wf0) (trodAll_cons_mk (Below.trod Try.laidOut (by kernel_rfl) (of_decide_eq_true (by kernel_rfl)) gk1 hb (fun x hx => hlt x (by simp [hx]))) (trodAll_cons_mk (Below.trod Try.laidOut (by kernel_rfl) (of_decide_eq_true (by kernel_rfl)) gk2 hb (fun x hx => hlt x (by simp [hx]))) (trodAll_cons_mk (shut_int Try.underlying3 wf3) trodAll_mk0)))), rfl, hb.frame _, fun h => by cases h⟩

theorem over : Rows.bitsTellRow.holds Try.pinned (OpenSpec.ofChange Rows.bitsTellSpec) :=
  OpenClaim.holds_of_wide 3 Try.f3 rfl rfl rfl rfl rfl rfl rfl ⟨rfl, rfl, rfl, rfl, rfl⟩ rfl rfl rfl rfl rfl (by kernel_rfl) Try.func3 (by kernel_rfl)
    (of_decide_eq_true (by kernel_rfl)) (by unfold Func.isWrapper; first | (rw [if_pos (by decide +kernel)]; kernel_rfl) | (rw [if_neg (by decide +kernel)]; exact ⟨rfl, rfl⟩))
    (fun os started H enc _ => lifted os started H enc)
end Go.Proofs.Ytkonbkmjodfcoaa.bitsTell

namespace Go.Proofs.Ytkonbkmjodfcoaa
theorem bitsTell_holds : Rows.BitsTellSaid := bitsTell.over
#print axioms bitsTell_holds
end Go.Proofs.Ytkonbkmjodfcoaa
