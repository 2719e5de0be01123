/- Contracts: the program's table of roots, and its small functions. -/
import Derived.Test.YtmjcgkddjgplkaaDoorE
namespace Go.Proofs.YtmjcgkddjgplkaaDoor
open Go.RowKit Slices Go.Proofs.YtmjcgkddjgplkaaDoor.Ring

def rootL : List Int := [1, 1729, 2580, 3289, 2642, 630, 1897, 848, 1062, 1919, 193, 797, 2786, 3260, 569, 1746,
  296, 2447, 1339, 1476, 3046, 56, 2240, 1333, 1426, 2094, 535, 2882, 2393, 2879, 1974, 821,
  289, 331, 3253, 1756, 1197, 2304, 2277, 2055, 650, 1977, 2513, 632, 2865, 33, 1320, 1915,
  2319, 1435, 807, 452, 1438, 2868, 1534, 2402, 2647, 2617, 1481, 648, 2474, 3110, 1227, 910,
  17, 2761, 583, 2649, 1637, 723, 2288, 1100, 1409, 2662, 3281, 233, 756, 2156, 3015, 3050,
  1703, 1651, 2789, 1789, 1847, 952, 1461, 2687, 939, 2308, 2437, 2388, 733, 2337, 268, 641,
  1584, 2298, 2037, 3220, 375, 2549, 2090, 1645, 1063, 319, 2773, 757, 2099, 561, 2466, 2594,
  2804, 1092, 403, 1026, 1143, 2150, 2775, 886, 1722, 1212, 1874, 1029, 2110, 2935, 885, 2154]
theorem root_all : (List.range 128).all (fun i => rootL.getD i 0 == rRoot i) = true := by decide +kernel
theorem root_at {i : Nat} (h : i < 128) : rootL.getD i 0 = rRoot i := by
  have := List.all_eq_true.mp root_all i (List.mem_range.mpr h)
  simpa using this

/-- the program's table of roots lies where its variable lies -/
def Tab (w : World) : Prop := ∀ i, i < 128 → w.cell? ⟨0, i, none⟩ = some (.int .i64 (rRoot i))
theorem Tab.size {w : World} (h : Tab w) : 0 < w.heap.size := World.block_lt_of_cell? w ⟨0, 0, none⟩ (h 0 (by omega))
theorem Tab.next {w w' : World} (h : Tab w) (hb : Below w.heap.size w w') : Tab w' := fun i hi => (hb.cell (p := ⟨0, i, none⟩) h.size).trans (h i hi)
theorem Tab.drewN {w : World} (h : Tab w) (n : Nat) : Tab (w.drewN n) := h

set_option maxHeartbeats 400000 in
theorem root_any (i : Nat) (w : World) (hi : i < 128) (T : Hid (Tab w)) :
    Calls Tryd.prog 40 #[.int .i64 i] w fun e w' => e = .returned (.int .i64 (rRoot i)) ∧ w = w' := by
  have hc := T.out i hi
  have hb : bits BinOp.and IntKind.i64 (i : Int) 127 = (i : Int) := by rw [and127]; omega
  go_enter Tryd.func40, Tryd.ntmps40
  go_wp2
  go_ret
  exact ⟨rfl, rfl⟩

set_option maxRecDepth 100000 in
set_option maxHeartbeats 400000 in
theorem clone_any (a : Addr) (c : Nat) (l : List Int) (w : World) (h : Has w w.heap.size (some a) l) (hl : 0 < l.length) (hb : l.length ≤ 300) :
    Calls Tryd.prog 37 #[.slice (some a) l.length c] w (Gives w l) := by
  obtain ⟨i0, hi0, hz0, hz1, hz2⟩ := info_parts Tryd.info3
  obtain ⟨a', e, hab, hc⟩ := h.addr hl
  injection e with e
  subst e
  have HC := Lib.hid hc
  have q22 := Lib.run_eql_slice_nil (P := Tryd.prog) w 22 3 (some a) l.length c 0 0 Tryd.underlying22
  clear hc h
  go_enter Tryd.func37, Tryd.ntmps37
  go_wp2_with (at_builtin; refine wpList_append_own _ rfl _ _ 22 rfl w.heap.size 3 i0 (.int .i64 0) 1 8 Tryd.underlying22 hi0 hz0 hz1 hz2 rfl (by decide) _ _ _ rfl (World.ownsRow_made w #[] 0 (Nat.le_refl _) (Nat.zero_le _) rfl) a l.length c (ints l) rfl (by rw [ints_length]; omega) ?hc (ints_one l) (by unfold maxLen; omega) (by omega) ?hs ?_)
  case hc => intro j u hu; exact Lib.cell?_alloc_some _ (HC.out j u hu)
  case hs => simp
  intro v1 w1 hown hgrow hnil
  obtain ⟨g, c1, rfl, hg⟩ := own_form hown hl
  have HO := Lib.hid hown
  have HG := Lib.hid hgrow
  clear hown hgrow hnil
  go_wp2
  go_ret
  exact ⟨g, c1, rfl, HO.out, ((Below.refl _ w).alloc (Nat.le_refl _) _).grown HG.out (by simp) (by intro k hk; simp [Value.ownBlock] at hk; omega)⟩

set_option maxHeartbeats 400000 in
theorem pMay_yes (A : Option Addr) (c B : Nat) (l : List Int) (w : World) (h : Has w B A l) (hp : IsPoly l) :
    Calls Tryd.prog 24 #[.slice A l.length c] w fun e w' => e = .returned (.bool true) ∧ ∃ n, w' = w.drewN n := by
  have t : ((l.length : Int) != 256) = false := by rw [hp.1]; rfl
  have hle : l.length ≤ 256 := by rw [hp.1]; exact Nat.le_refl _
  have HP := Lib.hid hp
  clear hp
  go_enter Tryd.func24, Tryd.ntmps24
  go_wp2
  go_loopw [10] (fun i wr => ∃ k : Nat, k ≤ l.length ∧ i = .int .i64 k ∧ wr = w) (fun i _ => l.length - (intOf i).toNat)
  case atStart => exact ⟨0, Nat.zero_le _, rfl, rfl⟩
  case round =>
    obtain ⟨k, hk, rfl, rfl⟩ := hrel
    by_cases hlt : k < l.length
    · obtain ⟨a, rfl, _, ha⟩ := h k hlt
      obtain ⟨x0, x1⟩ := HP.out.2 k (by omega)
      generalize l.getD k 0 = x at ha x0 x1
      go_wp2
      go_roundw
      case rel => exact ⟨k + 1, by omega, by go_num, trivial⟩
      case measure => simp [intOf]; omega
    · go_wp2
      go_ret
      exact ⟨rfl, 0, rfl⟩

set_option maxRecDepth 100000 in
set_option maxHeartbeats 400000 in
theorem pMay_short (A : Option Addr) (c : Nat) (n : Nat) (w : World) (hp : n ≠ 256) :
    Calls Tryd.prog 24 #[.slice A n c] w fun e w' => e = .returned (.bool false) ∧ ∃ n, w' = w.drewN n := by
  have t : ((n : Int) != 256) = true := by simp; omega
  clear hp
  go_enter Tryd.func24, Tryd.ntmps24
  go_wp2
  go_ret
  exact ⟨rfl, 0, rfl⟩

set_option maxRecDepth 100000 in
set_option maxHeartbeats 400000 in
theorem pMay_bad (A : Option Addr) (c B : Nat) (l : List Int) (w : World) (h : Has w B A l) (hl : l.length = 256) (j : Nat) (hj : j < 256) (hb : ¬ okN (l.getD j 0)) :
    Calls Tryd.prog 24 #[.slice A l.length c] w fun e w' => e = .returned (.bool false) ∧ ∃ n, w' = w.drewN n := by
  have t : ((l.length : Int) != 256) = false := by rw [hl]; rfl
  have hle : l.length ≤ 256 := by omega
  have hge : 256 ≤ l.length := by omega
  have HB := Lib.hid hb
  clear hb hl
  go_enter Tryd.func24, Tryd.ntmps24
  go_wp2
  go_loopw [10] (fun i wr => ∃ k : Nat, k ≤ j ∧ i = .int .i64 k ∧ wr = w) (fun i _ => l.length - (intOf i).toNat)
  case atStart => exact ⟨0, Nat.zero_le _, rfl, rfl⟩
  case round =>
    obtain ⟨k, hk, rfl, rfl⟩ := hrel
    have hlt : k < l.length := by omega
    obtain ⟨a, rfl, _, ha⟩ := h k hlt
    by_cases hx : okN (l.getD k 0)
    · have hne : k ≠ j := fun e => HB.out (e ▸ hx)
      have hk' : k + 1 ≤ j := by omega
      clear hne
      obtain ⟨x0, x1⟩ := hx
      generalize l.getD k 0 = x at ha x0 x1
      go_wp2
      go_roundw
      case rel => exact ⟨k + 1, by omega, by go_num, trivial⟩
      case measure => simp [intOf]; omega
    · unfold okN at hx
      generalize l.getD k 0 = x at ha hx
      by_cases x0 : x < 0
      · clear hx
        go_wp2
        go_ret
        exact ⟨rfl, 0, rfl⟩
      · have x1 : 3329 ≤ x := by omega
        clear hx
        go_wp2
        go_ret
        exact ⟨rfl, 0, rfl⟩

theorem pMay_no (A : Option Addr) (c B : Nat) (l : List Int) (w : World) (h : Has w B A l) (hp : ¬ IsPoly l) :
    Calls Tryd.prog 24 #[.slice A l.length c] w fun e w' => e = .returned (.bool false) ∧ ∃ n, w' = w.drewN n := by
  by_cases hl : l.length = 256
  · obtain ⟨j, hj, hb⟩ : ∃ j, j < 256 ∧ ¬ okN (l.getD j 0) := by
      apply Classical.byContradiction
      intro hne
      exact hp ⟨hl, fun k hk => Classical.byContradiction fun g => hne ⟨k, hk, g⟩⟩
    exact pMay_bad A c B l w h hl j hj hb
  · exact pMay_short A c l.length w hl
end Go.Proofs.YtmjcgkddjgplkaaDoor
