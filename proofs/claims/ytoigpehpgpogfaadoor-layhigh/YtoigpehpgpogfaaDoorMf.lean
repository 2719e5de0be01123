/- Contract: hints out of any bytes, of any set, by the document's own code. -/
import Derived.Test.YtoigpehpgpogfaaDoorMe
namespace Go.Proofs.YtoigpehpgpogfaaDoor
open Go.RowKit Slices Go.Proofs.YtoigpehpgpogfaaDoor.Bit

def UnOk (s : Int) (b : List Int) : Prop := b.length = wOf s + kOf s ∧ hintsE (kOf s) (wOf s) (readL (wOf s) b (kOf s)) = 0 ∧ hintsL (kOf s) (wOf s) (readL (wOf s) b (kOf s)) = b
open Classical in
noncomputable def rE (s : Int) (b : List Int) : Int := if setB s = true then (if b.length = wOf s + kOf s then (if UnOk s b then 0 else 4) else 3) else 2
open Classical in
noncomputable def rL (s : Int) (b : List Int) : List (List Int) := if setB s = true ∧ UnOk s b then readL (wOf s) b (kOf s) else []

set_option maxRecDepth 100000 in
set_option maxHeartbeats 2000000 in
theorem refUnhint_none (s : Int) (A : Option Addr) (c n : Nat) (w : World) (hs : ¬ setB s = true) :
    Calls Tryd.prog 30 #[.int .i64 s, .slice A n c] w (ResU w [] 2) := by
  obtain ⟨h1, h2, h3⟩ := set_no hs
  clear hs
  go_enter Tryd.func30, Tryd.ntmps30
  go_wp2_with (go_at_call 14; refine (refSet_0 s _ h1 h2 h3).mono ?_; rintro e w1 ⟨rfl, hb⟩; have HB := Lib.hid hb; clear hb)
  go_ret2
  exact resU_nil rfl (HB.out.alloc HB.out.size _)
set_option maxRecDepth 100000 in
set_option maxHeartbeats 2000000 in
theorem refUnhint_size (s : Int) (A : Option Addr) (c n : Nat) (w : World) (hs : setB s = true) (_hn : n ≤ 4000) (h : n ≠ wOf s + kOf s) :
    Calls Tryd.prog 30 #[.int .i64 s, .slice A n c] w (ResU w [] 3) := by
  obtain ⟨x1, x2, x3, x4, x6, x7, x8, hx⟩ := set_kw hs
  obtain ⟨K0, K1, W0, W1⟩ := kw_bd s
  generalize kOf s = K at hx K0 K1 h
  generalize wOf s = W at hx W0 W1 h
  have HX := Lib.hid hx
  have HS := Lib.hid hs
  have t1 : ((n : Int) != (W : Int) + (K : Int)) = true := by rw [bne_iff_ne]; omega
  clear hx hs h
  go_enter Tryd.func30, Tryd.ntmps30
  go_wp2_with (go_at_call 14; refine (refSet_any s _).mono ?_; rw [HX.out, HS.out]; rintro e w1 ⟨rfl, hb⟩; have HB := Lib.hid hb; clear hb)
  go_ret2
  exact resU_nil rfl (HB.out.alloc HB.out.size _)
theorem refUnhint_any (s : Int) (A : Option Addr) (c : Nat) (b : List Int) (w : World) (h : Has .u8 w w.heap.size A b) (hf : Fit 8 b) (hn : b.length ≤ 4000) :
    Calls Tryd.prog 30 #[.int .i64 s, .slice A b.length c] w (ResU w (rL s b) (rE s b)) := by
  unfold rL rE
  by_cases hs : setB s = true
  · rw [if_pos hs]
    by_cases hl : b.length = wOf s + kOf s
    · rw [if_pos hl]
      refine refUnhint_in s A c b w hs h hf (kOf s) (wOf s) rfl rfl hl _ _ ⟨fun g => ?_, fun g => ?_⟩
      · have hu : UnOk s b := ⟨hl, g⟩
        exact ⟨if_pos hu, if_pos ⟨hs, hu⟩⟩
      · have hu : ¬ UnOk s b := fun q => g q.2
        exact ⟨if_neg hu, if_neg fun q => hu q.2⟩
    · have hu : ¬ UnOk s b := fun q => hl q.1
      rw [if_neg hl, if_neg fun q => hu q.2]
      exact refUnhint_size s A c _ w hs hn hl
  · rw [if_neg hs, if_neg fun q => hs q.1]
    exact refUnhint_none s A c _ w hs
end Go.Proofs.YtoigpehpgpogfaaDoor
