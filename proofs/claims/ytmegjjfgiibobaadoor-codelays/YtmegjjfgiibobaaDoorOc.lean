/- Contracts: the landed code's Number, Bytes and Text. -/
import Derived.Test.YtmegjjfgiibobaaDoorOb
namespace Go.Proofs.YtmegjjfgiibobaaDoor
open Go.RowKit Slices Go.Proofs.YtmegjjfgiibobaaDoor.Bit

theorem withRoom_i (A : Option Addr) (n c : Nat) (b : List Int) (M : Int) (m : Nat) (hM : M = (m : Int)) (w : World) (h : Has .u8 w w.heap.size A b) (hn : n = b.length) (hA : A = none → n = 0 ∧ c = 0) (hl : n ≤ 40000) (hm : m ≤ 40000) :
    Calls Tryd.prog 32 #[.slice A n c, .int .i64 M] w (Row w.heap.size w n b) := by
  subst hM
  exact withRoom_any A n c b m w h hn hA hl hm
theorem row_trans {B n m : Nat} {w w1 : World} {L L' : List Int} {e : Ending} {w' : World} (hb : Below B w w1) (hn : n = m) (hL : L = L') (h : Row B w1 n L e w') : Row B w m L' e w' := by
  subst hn
  subst hL
  obtain ⟨A, c, he, ho, h2⟩ := h
  exact ⟨A, c, he, ho, hb.trans h2⟩
theorem res_row {w : World} {n : Nat} {L : List Int} {e : Ending} {w' : World} (h : Row w.heap.size w n L e w') : Res .u8 5 w L e w' := by
  obtain ⟨A, c, he, ho, h2⟩ := h
  have hl := own_len ho
  subst hl
  exact ⟨A, c, he, ho, h2⟩

/-- the bytes of the first k numbers are laid behind b -/
def NumRow (w : World) (n : Nat) (b ns : List Int) (k : Nat) (v : Value) (wr : World) : Prop :=
  wr.ownsRow w.heap.size 5 1 v (n + 8 * k) (ints .u8 (b ++ beL (ns.take k))) ∧ Below w.heap.size w wr
set_option maxRecDepth 100000 in
set_option maxHeartbeats 1000000 in
theorem number_any (A A' : Option Addr) (n c n' c' : Nat) (b ns : List Int) (w : World) (h : Has .u8 w w.heap.size A b) (hn : n = b.length) (hA : A = none → n = 0 ∧ c = 0) (hl : n ≤ 10000) (hn' : n' = ns.length) (h' : Has .i64 w w.heap.size A' ns) (hl' : n' ≤ 100) :
    Calls Tryd.prog 10 #[.slice A n c, .slice A' n' c'] w (Res .u8 5 w (b ++ beL ns)) := by
  have H := Lib.hid h
  have H' := Lib.hid h'
  have HA := Lib.hid hA
  have HN := Lib.hid hn
  have HN' := Lib.hid hn'
  clear h h' hA hn hn'
  go_enter Tryd.func10, Tryd.ntmps10
  go_wp2_with fail
  refine (withRoom_i A n c b _ (8 * n') (by omega) _ H.out HN.out HA.out (by omega) (by omega)).mono ?_
  rintro e w1 ⟨A1, c1, rfl, ho, hb⟩
  have HS : Hid (NumRow w n b ns 0 (.slice A1 n c1) w1) := ⟨by simpa [beL] using ho, hb⟩
  clear ho hb
  go_wp2
  go_loopw [5, 15] (fun v i wr => ∃ k : Nat, k ≤ n' ∧ i = .int .i64 k ∧ NumRow w n b ns k v wr) (fun _ i _ => n' - (intOf i).toNat)
  case atStart => exact ⟨0, by omega, rfl, HS.out⟩
  case round =>
    obtain ⟨k, hk, rfl, hrow⟩ := hrel
    have HR := Lib.hid hrow
    clear hrow HS
    by_cases hlt : k < n'
    · obtain ⟨a, rfl, _, ha⟩ := (H'.out.below HR.out.2) k (by have := HN'.out; omega)
      obtain ⟨x, hx⟩ : ∃ x, x = ns.getD k 0 := ⟨_, rfl⟩
      rw [← hx] at ha
      have HX := Lib.hid hx
      clear hx
      obtain ⟨A2, c2, rfl⟩ := own_slice HR.out.1
      have hs := HR.out.2.size
      go_wp2_with fail
      refine (addNumber_any w.heap.size _ c2 A2 _ x _ HR.out.1 hs (by omega)).mono ?_
      rintro e w4 ⟨A3, c3, rfl, ho, hb⟩
      have HNX : Hid (NumRow w n b ns (k + 1) (.slice A3 (n + 8 * k + 8) c3) w4) := by
        refine ⟨?_, HR.out.2.trans hb⟩
        have e2 : ns.take (k + 1) = ns.take k ++ [x] := by
          have hk2 : k < ns.length := by have := HN'.out; omega
          rw [List.take_succ_eq_append_getElem hk2, HX.out, List.getD_eq_getElem?_getD, List.getElem?_eq_getElem hk2]; rfl
        rw [e2, beL_app, beL_one, ← List.append_assoc, show n + 8 * (k + 1) = n + 8 * k + 8 by omega]
        exact ho
      clear ho hb
      go_wp2
      go_roundw
      case rel => exact ⟨k + 1, by omega, by go_num, HNX.out⟩
      case measure => simp [intOf]; omega
    · have e : k = n' := by omega
      subst e
      go_wp2
      go_ret
      have q := HR.out.1
      rw [HN'.out, List.take_length] at q
      exact res_of q HR.out.2
end Go.Proofs.YtmegjjfgiibobaaDoor
