/- Contracts: polys that the statements make. -/
import Derived.Test.YtneopnlklhcopaaA
import Derived.Test.YtneopnlklhcopaaPolyH
namespace Go.Proofs.Ytneopnlklhcopaa
open Go.RowKit Slices Go.Proofs.Ytneopnlklhcopaa.Ring

theorem Try.info3 : (Try.prog.info? 3).map (fun i => (i.zero, i.size, i.bytes)) = some (some (.int .i64 0), 1, 8) := by kernel_rfl

/-- what a call made: a slice of its own that reads as l -/
def Gives (w : World) (l : List Int) (e : Ending) (w' : World) : Prop :=
  ∃ g c, e = .returned (.slice (some ⟨g, 0, none⟩) l.length c) ∧ w'.ownsRow w.heap.size 3 1 (.slice (some ⟨g, 0, none⟩) l.length c) l.length (ints l) ∧ Below w.heap.size w w'

set_option maxHeartbeats 400000 in
theorem unit_any (i : Nat) (w : World) (hi : i < 256) :
    Calls Try.prog 38 #[.int .i64 i] w (Gives w (unitL 256 i)) := by
  obtain ⟨i0, hi0, hz0, hz1, hz2⟩ := info_parts Try.info3
  obtain ⟨N, hN⟩ : ∃ N : Nat, N = 256 := ⟨_, rfl⟩
  have n0 : N ≤ 256 := by omega
  have n1 : 256 ≤ N := by omega
  have HN := Lib.hid hN
  clear hN
  go_enter Try.func38, Try.ntmps38
  go_wp2_with (at_make; refine wpList_make_full _ rfl _ _ 22 rfl w.heap.size 3 i0 (.int .i64 0) 1 Try.underlying22 hi0 hz0 hz1 _ _ _ _ N rfl rfl (by omega) (by omega) (by rw [hz2]; omega) (by unfold maxLen; omega) (Nat.le_refl _) ?_; intro w1 hown hgrow; rw [made_ints] at hown; have hc : w1.cell? ⟨w.heap.size, i, none⟩ = some (.int .i64 ((List.replicate N 0).getD i 0)) := own_cell hown (by omega); have hf := hown.frozenAt i; have HO := Lib.hid hown; clear hown; have HG := Lib.hid hgrow; clear hgrow)
  go_ret
  have e := HN.out
  subst e
  have hs := own_set HO.out i 1
  have hle : (unitL 256 i).length = 256 := by rw [unitL, List.length_set, List.length_replicate]
  refine ⟨w.heap.size, 256, by rw [hle]; rfl, by rw [hle]; exact hs, ?_⟩
  exact ((Below.refl _ _).grown HG.out (Nat.le_refl _) (by simp)).setCell (by exact Nat.le_refl _) _
end Go.Proofs.Ytneopnlklhcopaa
