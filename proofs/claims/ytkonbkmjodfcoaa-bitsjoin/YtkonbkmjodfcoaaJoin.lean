/- Numbers whose bits fill bytes are packed as both parts are, one behind the other: for every two whole numbers and every two lists of whole numbers the law returns true, and both lists read behind the call as ahead of it. Conditions: none; where the first list is empty or has more than 200 numbers, or the second more than 60, the law itself asks nothing but its example. -/
import Derived.Test.YtkonbkmjodfcoaaLift
import Derived.Test.YtkonbkmjodfcoaaO
namespace Go.Proofs.Ytkonbkmjodfcoaa.bitsJoin
open Go.ChangeShapes Go.WideShapes Go.ChangeAt Go.RowKit Slices Go.Proofs.Ytkonbkmjodfcoaa.Bit

set_option maxRecDepth 100000 in
set_option maxHeartbeats 1000000 in
theorem big (d x : Int) (A A' : Option Addr) (c c' n m : Nat) (w : World) (hn : n ≤ 4611686018427387904) (hm : m ≤ 4611686018427387904) (h : n = 0 ∨ 200 < n ∨ 60 < m) :
    Calls Try.prog 6 #[.int .i64 d, .slice A n c, .slice A' m c', .int .i64 x] w fun e w' => e = .returned (.bool true) ∧ Below w.heap.size w w' := by
  by_cases h0 : n = 0
  · subst h0
    clear h
    go_enter Try.func6, Try.ntmps6
    go_wp2_with (go_at_call 8; refine (awake_any _).mono ?_; rintro e w' ⟨rfl, hb⟩)
    go_ret
    exact ⟨rfl, hb⟩
  · have z0 : ((n : Int) == 0) = false := by rw [beq_eq_false_iff_ne]; omega
    by_cases h1 : 200 < n
    · clear h h0
      go_enter Try.func6, Try.ntmps6
      go_wp2_with (go_at_call 8; refine (awake_any _).mono ?_; rintro e w' ⟨rfl, hb⟩)
      go_ret
      exact ⟨rfl, hb⟩
    · have h2 : 60 < m := by omega
      clear h h0
      go_enter Try.func6, Try.ntmps6
      go_wp2_with (go_at_call 8; refine (awake_any _).mono ?_; rintro e w' ⟨rfl, hb⟩)
      go_ret
      exact ⟨rfl, hb⟩

theorem walk (x0 : Int) (A1 : Option Addr) (c1 n1 : Nat) (l1 : List Int) (A2 : Option Addr) (c2 n2 : Nat) (l2 : List Int) (x3 : Int) (w : World) (h1 : Has .i64 w w.heap.size A1 l1) (e1 : l1.length = n1) (_m1 : n1 ≤ c1) (_k1 : A1 = none → n1 = 0 ∧ c1 = 0) (b1 : n1 ≤ 4611686018427387904) (h2 : Has .i64 w w.heap.size A2 l2) (e2 : l2.length = n2) (_m2 : n2 ≤ c2) (_k2 : A2 = none → n2 = 0 ∧ c2 = 0) (b2 : n2 ≤ 4611686018427387904) :
    Calls Try.prog 6 #[.int .i64 x0, .slice A1 n1 c1, .slice A2 n2 c2, .int .i64 x3] w fun e w' => e = .returned (.bool true) ∧ Below w.heap.size w w' := by
  subst e1
  subst e2
  by_cases h : l1.length = 0 ∨ 200 < l1.length ∨ 60 < l2.length
  · exact big x0 x3 A1 A2 c1 c2 _ _ w b1 b2 h
  · exact join_small x0 A1 A2 c1 c2 l1 l2 x3 w h1 h2 (by omega) (by omega) (by omega)

set_option maxRecDepth 100000 in
theorem lifted (os : Os) (started : os.Started) (H : Type) (enc : TypeId × Value → H) :
    ReturnsInHanded {} Try.checked os 6 .any (Rows.bitsJoinSpec.pre6 enc Try.prog Try.f6 Rows.bitsJoinRow.domain false) (Rows.bitsJoinSpec.post enc Try.prog Try.f6 false true false false) := by
  refine returnsInHanded_of_change_sized (C := Try.checked) Try.own started (by kernel_rfl) Try.func6
    (ChangeSpec.witness6 (enc := enc) (C := Try.checked) false ⟨#[], #[.int .i64 0, .slice none 0 0, .slice none 0 0, .int .i64 0], []⟩ 8 (by kernel_rfl) (by kernel_rfl) (by kernel_rfl) (by kernel_rfl)) ?_
  intro W base args ds gs before hval0 hW _ hsz0 _
  have hsz : (DataW.weightsEach Try.prog (Try.f6.params.toList ++ Rows.bitsJoinSpec.plain.varTypes Try.prog) (ds ++ gs)).all (· ≤ reachBytes) = true := hsz0
  clear hsz0
  have hval : ∀ (j : Nat) t v, Try.f6.params[j]? = some t → args[j]? = some v → Value.okWide Try.prog W .any base t v := hval0
  have hW' := hW
  obtain ⟨p, q, hA0, hV, rfl, _, _⟩ := hW
  have hA : DataW.TrodAll enc Try.prog W 0 (fun _ => true) true Try.f6.params.toList args.toList ds p := hA0
  rw [Try.params6] at hA hval hsz
  obtain ⟨v0, vs0, d0, ds0, p0, q0, hargs, rfl, rfl, g0, r0⟩ := trodAll_cons hA
  obtain ⟨v1, vs1, d1, ds1, p1, q1, rfl, rfl, rfl, g1, r1⟩ := trodAll_cons r0
  obtain ⟨v2, vs2, d2, ds2, p2, q2, rfl, rfl, rfl, g2, r2⟩ := trodAll_cons r1
  obtain ⟨v3, vs3, d3, ds3, p3, q3, rfl, rfl, rfl, g3, r3⟩ := trodAll_cons r2
  obtain ⟨rfl, rfl, rfl⟩ := trodAll_nil r3
  obtain rfl : args = #[v0, v1, v2, v3] := by cases args; simp_all
  obtain ⟨rfl, rfl⟩ := trodVars_none hV
  obtain ⟨x0, rfl, rfl, rfl, wf0⟩ := open_int Try.underlying3 (hval 0 3 v0 rfl rfl) g0
  obtain ⟨A1, n1, c1, rfl⟩ := okWide_slice Try.underlying22 (hval 1 22 v1 rfl rfl)
  have gk1 := g1
  obtain ⟨fu1, hf1⟩ := g1
  obtain ⟨A2, n2, c2, rfl⟩ := okWide_slice Try.underlying22 (hval 2 22 v2 rfl rfl)
  have gk2 := g2
  obtain ⟨fu2, hf2⟩ := g2
  obtain ⟨x3, rfl, rfl, rfl, wf3⟩ := open_int Try.underlying3 (hval 3 3 v3 rfl rfl) g3
  clear hA0 hval0
  simp only [List.append_nil] at hW'
  have hlt : ∀ x ∈ p1 ++ p2, x.block < W.heap.size := fun x hx => by first | exact hW'.lt x hx | (simpa using hW'.lt x hx) | exact hW'.lt x (by simpa using hx)
  obtain ⟨l1, e1, m1, k1, cell1, dd1, _⟩ := view Try.underlying22 Try.underlying3 Try.cells3 hf1
  have b1 : n1 ≤ 4611686018427387904 := by
    rcases dd1 with ⟨_, h⟩ | ⟨sp, h⟩
    · omega
    · have := sized_slice hsz (j := 1) (t := 22) (e := 3) rfl (by rw [h]; rfl) Try.underlying22
      rw [Try.bytes3] at this
      simp only [lits, List.length_map, e1, reachBytes] at this
      omega
  obtain ⟨l2, e2, m2, k2, cell2, dd2, _⟩ := view Try.underlying22 Try.underlying3 Try.cells3 hf2
  have b2 : n2 ≤ 4611686018427387904 := by
    rcases dd2 with ⟨_, h⟩ | ⟨sp, h⟩
    · omega
    · have := sized_slice hsz (j := 2) (t := 22) (e := 3) rfl (by rw [h]; rfl) Try.underlying22
      rw [Try.bytes3] at this
      simp only [lits, List.length_map, e2, reachBytes] at this
      omega
  refine (walk x0 A1 c1 n1 l1 A2 c2 n2 l2 x3 W (view_has e1 cell1 fun h => (k1 h).1) e1 m1 k1 b1 (view_has e2 cell2 fun h => (k2 h).1) e2 m2 k2 b2).mono fun e W' ⟨he, hb⟩ => ?_
  subst he
  refine ⟨_, rfl, _, _, _, _, _, [], hW', trodAll_mk1 (shut_bool Try.underlying4 _), (trodAll_cons_mk (shut_int Try.underlying3 wf0) (trodAll_cons_mk (Below.trod Try.laidOut (by kernel_rfl) (of_decide_eq_true (by kernel_rfl)) gk1 hb (fun x hx => hlt x (by simp [hx]))) (trodAll_cons_mk (Below.trod Try.laidOut (by kernel_rfl) (of_decide_eq_true (by kernel_rfl)) gk2 hb (fun x hx => hlt x (by simp [hx]))) (trodAll_cons_mk (shut_int Try.underlying3 wf3) trodAll_mk0)))), rfl, hb.frame _, fun h => by cases h⟩

theorem over : Rows.bitsJoinRow.holds Try.pinned (OpenSpec.ofChange Rows.bitsJoinSpec) :=
  OpenClaim.holds_of_wide 6 Try.f6 rfl rfl rfl rfl rfl rfl rfl ⟨rfl, rfl, rfl, rfl, rfl⟩ rfl rfl rfl rfl rfl (by kernel_rfl) Try.func6 (by kernel_rfl)
    (of_decide_eq_true (by kernel_rfl)) (by unfold Func.isWrapper; first | (rw [if_pos (by decide +kernel)]; kernel_rfl) | (rw [if_neg (by decide +kernel)]; exact ⟨rfl, rfl⟩))
    (fun os started H enc _ => lifted os started H enc)
end Go.Proofs.Ytkonbkmjodfcoaa.bitsJoin

namespace Go.Proofs.Ytkonbkmjodfcoaa
theorem bitsJoin_holds : Rows.BitsJoinSaid := bitsJoin.over
#print axioms bitsJoin_holds
end Go.Proofs.Ytkonbkmjodfcoaa
