/- Contract: numbers as bytes behind bytes, by the document's own code. -/
import Derived.Test.YtidpihpddkfhgaaDoorCb
import Derived.Test.YtidpihpddkfhgaaDoorCa
namespace Go.Proofs.YtidpihpddkfhgaaDoor
open Go.RowKit Slices Go.Proofs.YtidpihpddkfhgaaDoor.Bit

theorem byte_eq (x : Int) (k : Nat) : IntKind.u64.wrap x / 2 ^ (8 * k) % 256 = byteAt x k := by
  have e : IntKind.u64.wrap x = ((u64 x : Nat) : Int) := by rw [u64_cast]; simp [IntKind.wrap, IntKind.bits, IntKind.signed]
  have e2 : (2 : Int) ^ (8 * k) = ((256 ^ k : Nat) : Int) := by rw [pow_cast, Nat.pow_mul]
  unfold byteAt
  rw [e, e2]
  omega
/-- the bytes of the first k numbers are laid behind b -/
def NuRow (w : World) (b ns : List Int) (k m : Nat) (v : Value) (wr : World) : Prop :=
  wr.ownsRow w.heap.size 5 1 v (b.length + 8 * k + m) (ints .u8 (b ++ beL (ns.take k) ++ beTo (ns.getD k 0) m)) ∧ Below w.heap.size w wr

set_option maxRecDepth 100000 in
set_option maxHeartbeats 4000000 in
theorem refNumber_any (A A' : Option Addr) (c c' : Nat) (b ns : List Int) (w : World) (h : Has .u8 w w.heap.size A b) (hA : A = none → b.length = 0 ∧ c = 0) (h' : Has .i64 w w.heap.size A' ns) (hl : b.length ≤ 40000) (hl' : ns.length ≤ 4000) :
    Calls Tryd.prog 44 #[.slice A b.length c, .slice A' ns.length c'] w (Res .u8 5 w (b ++ beL ns)) := by
  obtain ⟨i0, hi0, hz0, hz1, hz2⟩ := info_parts Tryd.info5
  have H := Lib.hid h
  have H' := Lib.hid h'
  have HA := Lib.hid hA
  clear h h' hA
  go_enter Tryd.func44, Tryd.ntmps44
  go_wp2_with (at_builtin; refine append_any w rfl _ _ 22 rfl w.heap.size 5 i0 (.int .u8 0) 1 1 Tryd.underlying22 hi0 hz0 hz1 hz2 rfl (by decide) _ 0 [] rfl (World.ownsRow_nil _ _ _ _) A b.length c (ints .u8 b) rfl (by rw [ints_length, Nat.mul_one]) HA.out H.out.cells (ints_one _ _) (by unfold maxLen; omega) (by omega) (Nat.le_refl _) ?_; intro v1 w1 hown hgr; have hb1 : Below w.heap.size w w1 := (Below.refl _ w).grown hgr (Nat.le_refl _) (fun q hq => by cases hq); have HO1 := Lib.hid hown; have HB1 := Lib.hid hb1; clear hown hgr hb1)
  have HS : Hid (NuRow w b ns 0 0 v1 w1) := ⟨by have := HO1.out; simpa [beL, beTo] using this, HB1.out⟩
  clear HO1 HB1
  go_loopw [5, 6] (fun v i wr => ∃ k : Nat, k ≤ ns.length ∧ i = .int .i64 k ∧ NuRow w b ns k 0 v wr) (fun _ i _ => ns.length - (intOf i).toNat)
  case atStart => exact ⟨0, by omega, rfl, HS.out⟩
  case round =>
    obtain ⟨k, hk, rfl, hrow⟩ := hrel
    have HR := Lib.hid hrow
    clear hrow HS
    by_cases hlt : k < ns.length
    · go_wp2
      go_loopw [5, 7] (fun v i wr => ∃ m : Nat, m ≤ 8 ∧ i = .int .i64 (7 - (m : Int)) ∧ NuRow w b ns k m v wr) (fun _ i _ => (intOf i + 1).toNat)
      case atStart => exact ⟨0, by omega, rfl, HR.out⟩
      case round =>
        obtain ⟨m, hm, rfl, hrow⟩ := hrel
        have HM := Lib.hid hrow
        clear hrow HR
        by_cases hm8 : m < 8
        · obtain ⟨a, rfl, _, ha⟩ := (H'.out.below HM.out.2) k hlt
          have d0 : decide (0 ≤ 7 - (m : Int)) = true := by rw [decide_eq_true_iff]; omega
          obtain ⟨x, hx⟩ : ∃ x, x = ns.getD k 0 := ⟨_, rfl⟩
          rw [← hx] at ha
          have HX := Lib.hid hx
          have HBY := Lib.hid (byte_eq x (7 - m))
          clear hx
          go_wp2_with (at_builtin; refine append_any _ rfl (.tmp 20) (.tmp 30) 22 rfl w.heap.size 5 i0 (.int .u8 0) 1 1 Tryd.underlying22 hi0 hz0 hz1 hz2 rfl (by decide) u5 (b.length + 8 * k + m) _ rfl (HM.out.1.alloc _) (some ⟨wr.heap.size, 0, none⟩) 1 1 [.int .u8 (IntKind.u64.wrap x / 2 ^ (8 * (7 - m)) % 256)] rfl rfl (fun h => by cases h) (fun ad e => by injection e with e; subst e; exact World.news_of_block (cs := #[.int .u8 (IntKind.u64.wrap x / 2 ^ (8 * (7 - m)) % 256)]) (t := 5) (fr := (0, 0)) (heap_alloc_new wr _)) (by simp [Value.oneCell']) (by unfold maxLen; omega) (by omega) (by have := HM.out.2.size; simp; omega) ?_; intro v4 w4 hown4 hgrow4; have O4 := Lib.hid hown4; have G4 := Lib.hid hgrow4; clear hown4 hgrow4)
          have HNX : Hid (NuRow w b ns k (m + 1) v4 w4) := by
            refine ⟨?_, (HM.out.2.alloc HM.out.2.size _).grown G4.out (by have := HM.out.2.size; simp; omega) (fun q hq => (HM.out.1.lt q hq).1)⟩
            have q := O4.out
            rw [HBY.out, HX.out, ints_snoc, List.append_assoc, ← beTo_succ] at q
            exact q
          clear O4 G4
          go_roundw
          case rel => exact ⟨m + 1, by omega, by go_num, HNX.out⟩
          case measure => simp [intOf]; omega
        · have e : m = 8 := by omega
          subst e
          have d0 : decide (0 ≤ 7 - ((8 : Nat) : Int)) = false := by decide
          have HNX : Hid (NuRow w b ns (k + 1) 0 u5 wr) := by
            refine ⟨?_, HM.out.2⟩
            have q := HM.out.1
            have e1 : b ++ beL (ns.take (k + 1)) ++ beTo (ns.getD (k + 1) 0) 0 = b ++ beL (ns.take k) ++ beTo (ns.getD k 0) 8 := by
              have e2 : ns.take (k + 1) = ns.take k ++ [ns.getD k 0] := by
                rw [List.take_succ_eq_append_getElem hlt, List.getD_eq_getElem?_getD, List.getElem?_eq_getElem hlt]; rfl
              rw [e2, beL_app, beL_one]
              show b ++ (beL (ns.take k) ++ be8 (ns.getD k 0)) ++ [] = _
              rw [List.append_nil, ← List.append_assoc]; rfl
            rw [e1, show b.length + 8 * (k + 1) + 0 = b.length + 8 * k + 8 by omega]
            exact q
          go_wp2
          go_roundw
          case rel => exact ⟨k + 1, by omega, by go_num, HNX.out⟩
          case measure => simp [intOf]; omega
    · have e : k = ns.length := by omega
      subst e
      go_wp2
      go_ret
      have q := HR.out.1
      have e1 : b ++ beL (ns.take ns.length) ++ beTo (ns.getD ns.length 0) 0 = b ++ beL ns := by
        rw [List.take_length]
        show b ++ beL ns ++ [] = _
        rw [List.append_nil]
      rw [e1] at q
      exact res_of q HR.out.2
end Go.Proofs.YtidpihpddkfhgaaDoor
