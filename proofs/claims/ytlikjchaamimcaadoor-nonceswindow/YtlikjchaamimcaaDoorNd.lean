/- Contract: awake: what every program answers that is one. The laws NoncesTell, NoncesTurn, NoncesWindow, walked. -/
import Derived.Test.YtlikjchaamimcaaDoorNa
import Derived.Test.YtlikjchaamimcaaDoorNb
namespace Go.Proofs.YtlikjchaamimcaaDoor
open Go.RowKit Slices

theorem i64_of {n : Int} (h0 : 0 ≤ n) (h1 : n ≤ 1099511627776) : I64 n := by unfold I64; omega
theorem fresh_first : FreshN 0 0 5 := fresh_above may_first (by decide) (by decide)
theorem use_first : useU 0 0 5 = 1 := ones_first 5 (by decide)
theorem may_five : MayN 5 1 := by have := fresh_first.use; rw [use_first] at this; exact this
theorem not_five : ¬ FreshN 5 1 5 := by have := fresh_first.took; rw [use_first] at this; exact this
theorem fresh_four : FreshN 5 1 4 := ⟨may_five, by decide, by decide, by decide, by decide⟩

set_option maxRecDepth 100000 in
set_option maxHeartbeats 1000000 in
theorem awake_any (P : NoncesOk) (w : World) (hg : Han w) :
    Calls Tryd.prog 15 #[] w fun e w' => e = .returned (.bool true) ∧ Below w.heap.size w w' := by
  have HG := Lib.hid hg
  clear hg
  go_enter Tryd.func15, Tryd.ntmps15
  go_wp2_with fail
  refine (P.use 0 0 5 w (i64_of (by decide) (by decide)) (by decide) (i64_of (by decide) (by decide))).mono ?_
  rw [useH_yes fresh_first, useW_yes fresh_first, useE_yes fresh_first, use_first]
  rintro e w1 ⟨v, rfl, he, hb⟩
  obtain rfl := he.none
  have B1 := Lib.hid hb
  clear he hb
  go_wp2_with fail
  refine (P.use 5 1 5 w1 (i64_of (by decide) (by decide)) (by decide) (i64_of (by decide) (by decide))).mono ?_
  rw [useH_no not_five, useW_no not_five, useE_8 not_five may_five]
  rintro e w2 ⟨v, rfl, he, hb⟩
  have E2 := Lib.hid he
  have B2 := Lib.hid (below_next B1.out hb)
  clear he hb B1
  go_wp2_with fail
  refine (num_any 8 v w2 (HG.out.below B2.out) E2.out).mono ?_
  rintro e w3 ⟨rfl, hb⟩
  have B3 := Lib.hid (below_next B2.out hb)
  clear hb B2 E2
  go_wp2_with fail
  refine (P.fresh 5 1 4 w3 (i64_of (by decide) (by decide)) (by decide) (i64_of (by decide) (by decide))).mono ?_
  rw [freshC_yes fresh_four]
  rintro e w4 ⟨rfl, hb⟩
  have B4 := Lib.hid (below_next B3.out hb)
  clear hb B3
  go_wp2_with fail
  refine (P.may 5 1 w4 (i64_of (by decide) (by decide)) (by decide)).mono ?_
  rw [mayC_yes may_five]
  rintro e w5 ⟨rfl, hb⟩
  have B5 := Lib.hid (below_next B4.out hb)
  clear hb B4
  go_wp2
  go_ret
  exact ⟨rfl, B5.out⟩
end Go.Proofs.YtlikjchaamimcaaDoor
