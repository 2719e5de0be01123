/- What is asked of the program's Near, Far, Of, Sizes, and of Hints at a set that is none, is so. -/
import Derived.Test.YtoigpehpgpogfaaDoorNg
namespace Go.Proofs.YtoigpehpgpogfaaDoor
open Go.RowKit Slices Go.Proofs.YtoigpehpgpogfaaDoor.Bit

set_option maxRecDepth 100000 in
set_option maxHeartbeats 2000000 in
theorem laidHints_none (s : Int) (A : Option Addr) (c n : Nat) (w : World) (hs : setB s = false) :
    Calls Tryd.prog 50 #[.int .i64 s, .slice A n c] w fun e w' => ∃ v, e = .returned (.tuple #[.slice none 0 0, v]) ∧ IsF 2 v w' ∧ Below w.heap.size w w' := by
  have HX := Lib.hid (set_none hs)
  have HS := Lib.hid hs
  clear hs
  go_enter Tryd.func50, Tryd.ntmps50
  go_wp2_with (go_at_call 63; refine (haveSet_no s _ HS.out).mono ?_; rw [HX.out]; rintro e w1 ⟨v, rfl, hv, hb⟩; obtain ⟨p, rfl⟩ := isF_some hv (by decide); have HB := Lib.hid hb; have HV := Lib.hid hv; clear hb hv)
  go_ret2
  exact ⟨_, rfl, HV.out.next ((Below.refl _ _).alloc (Nat.le_refl _) _), HB.out.alloc HB.out.size _⟩
theorem pHints_none (w : World) : Calls Tryd.prog 27 #[.int .i64 0, .slice none 0 0] w fun e w' => ∃ v, e = .returned (.tuple #[.slice none 0 0, v]) ∧ IsErr 2 v w' ∧ Below w.heap.size w w' := by
  go_enter Tryd.func27, Tryd.ntmps27
  go_wp2_with (first
    | (go_at_call 50; refine (laidHints_none 0 none 0 0 _ (by decide)).mono ?_; rintro e w1 ⟨v, rfl, hv, hb⟩; have HV := Lib.hid hv; have HB := Lib.hid hb; clear hv hb)
    | (go_at_call 51; refine (wrap_any _ _ v _ HV.out).mono ?_; rintro e w2 ⟨v2, rfl, hv2, hb2⟩; have HV2 := Lib.hid hv2; have HB2 := Lib.hid hb2; clear hv2 hb2))
  go_ret2
  exact ⟨v2, rfl, HV2.out, below_next HB.out HB2.out⟩
theorem layOk : LayOk where
  near := pNear_any
  far := pFar_any
  set := pSet_any
  sizes := pSizes_any
  none := pHints_none
end Go.Proofs.YtoigpehpgpogfaaDoor
