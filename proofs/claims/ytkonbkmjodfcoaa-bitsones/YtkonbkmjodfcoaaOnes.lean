/- Numbers are packed as their bits are, one by one, bytes that are unpacked bit by bit are what they were, and a number's lowest bits are those of its lowest bits: for every three whole numbers and every list of whole numbers the law returns true, and the list reads behind the call as ahead of it. Conditions: none; of a list of more than 60 numbers the law itself asks nothing but its example. -/
import Derived.Test.YtkonbkmjodfcoaaLift
import Derived.Test.YtkonbkmjodfcoaaQ
namespace Go.Proofs.Ytkonbkmjodfcoaa.bitsOnes
open Go.ChangeShapes Go.WideShapes Go.ChangeAt Go.RowKit Slices Go.Proofs.Ytkonbkmjodfcoaa.Bit

set_option maxRecDepth 100000 in
set_option maxHeartbeats 1000000 in
theorem big (d x y : Int) (A : Option Addr) (c n : Nat) (w : World) (hn : n ≤ 4611686018427387904) (h : 60 < n) :
    Calls Try.prog 7 #[.int .i64 d, .slice A n c, .int .i64 x, .int .i64 y] w fun e w' => e = .returned (.bool true) ∧ Below w.heap.size w w' := by
  go_enter Try.func7, Try.ntmps7
  go_wp2_with (go_at_call 8; refine (awake_any _).mono ?_; rintro e w' ⟨rfl, hb⟩)
  go_ret
  exact ⟨rfl, hb⟩

theorem walk (x0 : Int) (A1 : Option Addr) (c1 n1 : Nat) (l1 : List Int) (x2 : Int) (x3 : Int) (w : World) (h1 : Has .i64 w w.heap.size A1 l1) (e1 : l1.length = n1) (_m1 : n1 ≤ c1) (_k1 : A1 = none → n1 = 0 ∧ c1 = 0) (b1 : n1 ≤ 4611686018427387904) :
    Calls Try.prog 7 #[.int .i64 x0, .slice A1 n1 c1, .int .i64 x2, .int .i64 x3] w fun e w' => e = .returned (.bool true) ∧ Below w.heap.size w w' := by
  subst e1
  by_cases h : 60 < l1.length
  · exact big x0 x2 x3 A1 c1 _ w b1 h
  · exact ones_small x0 A1 c1 l1 x2 x3 w h1 (by omega)

set_option maxRecDepth 100000 in
theorem lifted (os : Os) (started : os.Started) (H : Type) (enc : TypeId × Value → H) :
    ReturnsInHanded {} Try.checked os 7 .any (Rows.bitsOnesSpec.pre6 enc Try.prog Try.f7 Rows.bitsOnesRow.domain false) (Rows.bitsOnesSpec.post enc Try.prog Try.f7 false true false false) := by
  refine returnsInHanded_of_change_sized (C := Try.checked) Try.own started (by kernel_rfl) Try.func7
    (ChangeSpec.witness6 (enc := enc) (C := Try.checked) false ⟨#[], #[.int .i64 0, .slice none 0 0, .int .i64 0, .int .i64 0], []⟩ 8 (by kernel_rfl) (by kernel_rfl) (by kernel_rfl) (by kernel_rfl)) ?_
  intro W base args ds gs before hval0 hW _ hsz0 _
  have hsz : (DataW.weightsEach Try.prog (Try.f7.params.toList ++ Rows.bitsOnesSpec.plain.varTypes Try.prog) (ds ++ gs)).all (· ≤ reachBytes) = true := hsz0
  clear hsz0
  have hval : ∀ (j : Nat) t v, Try.f7.params[j]? = some t → args[j]? = some v → Value.okWide Try.prog W .any base t v := hval0
  have hW' := hW
  obtain ⟨p, q, hA0, hV, rfl, _, _⟩ := hW
  have hA : DataW.TrodAll enc Try.prog W 0 (fun _ => true) true Try.f7.params.toList args.toList ds p := hA0
  rw [Try.params7] at hA hval hsz
  obtain ⟨v0, vs0, d0, ds0, p0, q0, hargs, rfl, rfl, g0, r0⟩ := trodAll_cons hA
  obtain ⟨v1, vs1, d1, ds1, p1, q1, rfl, rfl, rfl, g1, r1⟩ := trodAll_cons r0
  obtain ⟨v2, vs2, d2, ds2, p2, q2, rfl, rfl, rfl, g2, r2⟩ := trodAll_cons r1
  obtain ⟨v3, vs3, d3, ds3, p3, q3, rfl, rfl, rfl, g3, r3⟩ := trodAll_cons r2
  obtain ⟨rfl, rfl, rfl⟩ := trodAll_nil r3
  obtain rfl : args = #[v0, v1, v2, v3] := by cases args; simp_all
  obtain ⟨rfl, rfl⟩ := trodVars_none hV
  obtain ⟨x0, rfl, rfl, rfl, wf0⟩ := open_int Try.underlying3 (hval 0 3 v0 rfl rfl) g0
  obtain ⟨A1, n1, c1, rfl⟩ := okWide_slice Try.underlying22 (hval 1 22 v1 rfl rfl)
  have gk1 := g1
  obtain ⟨fu1, hf1⟩ := g1
  obtain ⟨x2, rfl, rfl, rfl, wf2⟩ := open_int Try.underlying3 (hval 2 3 v2 rfl rfl) g2
  obtain ⟨x3, rfl, rfl, rfl, wf3⟩ := open_int Try.underlying3 (hval 3 3 v3 rfl rfl) g3
  clear hA0 hval0
  simp only [List.append_nil] at hW'
  have hlt : ∀ x ∈ p1, x.block < W.heap.size := fun x hx => by first | exact hW'.lt x hx | (simpa using hW'.lt x hx) | exact hW'.lt x (by simpa using hx)
  obtain ⟨l1, e1, m1, k1, cell1, dd1, _⟩ := view Try.underlying22 Try.underlying3 Try.cells3 hf1
  have b1 : n1 ≤ 4611686018427387904 := by
    rcases dd1 with ⟨_, h⟩ | ⟨sp, h⟩
    · omega
    · have := sized_slice hsz (j := 1) (t := 22) (e := 3) rfl (by rw [h]; rfl) Try.underlying22
      rw [Try.bytes3] at this
      simp only [lits, List.length_map, e1, reachBytes] at this
      omega
  refine (walk x0 A1 c1 n1 l1 x2 x3 W (view_has e1 cell1 fun h => (k1 h).1) e1 m1 k1 b1).mono fun e W' ⟨he, hb⟩ => ?_
  subst he
  refine ⟨_, rfl, _, _, _, _, _, [], hW', trodAll_mk1 (shut_bool Try.underlying4 _), (trodAll_cons_mk (shut_int Try.underlying3 wf0) (trodAll_cons_mk (Below.trod Try.laidOut (by kernel_rfl) (of_decide_eq_true (by kernel_rfl)) gk1 hb (fun x hx => hlt x (by simp [hx]))) (trodAll_cons_mk (shut_int Try.underlying3 wf2) (trodAll_cons_mk (shut_int Try.underlying3 wf3) trodAll_mk0)))), rfl, hb.frame _, fun h => by cases h⟩

theorem over : Rows.bitsOnesRow.holds Try.pinned (OpenSpec.ofChange Rows.bitsOnesSpec) :=
  OpenClaim.holds_of_wide 7 Try.f7 rfl rfl rfl rfl rfl rfl rfl ⟨rfl, rfl, rfl, rfl, rfl⟩ rfl rfl rfl rfl rfl (by kernel_rfl) Try.func7 (by kernel_rfl)
    (of_decide_eq_true (by kernel_rfl)) (by unfold Func.isWrapper; first | (rw [if_pos (by decide +kernel)]; kernel_rfl) | (rw [if_neg (by decide +kernel)]; exact ⟨rfl, rfl⟩))
    (fun os started H enc _ => lifted os started H enc)
end Go.Proofs.Ytkonbkmjodfcoaa.bitsOnes

namespace Go.Proofs.Ytkonbkmjodfcoaa
theorem bitsOnes_holds : Rows.BitsOnesSaid := bitsOnes.over
#print axioms bitsOnes_holds
end Go.Proofs.Ytkonbkmjodfcoaa
