/- The law CodeLays, walked. -/
import Derived.Test.YtmegjjfgiibobaaDoorCq
namespace Go.Proofs.YtmegjjfgiibobaaDoor
open Go.RowKit Slices Go.Proofs.YtmegjjfgiibobaaDoor.Bit

set_option maxRecDepth 100000 in
set_option maxHeartbeats 2000000 in
theorem codeLays_big {pr : Nat → Nat → Nat → List Int → Bool → World → Prop} (P : CodeOk pr) (A1 A2 A3 A4 : Option Addr) (n1 n2 n3 n4 c1 c2 c3 c4 : Nat) (s : ByteArray) (w : World) (b1 : n1 ≤ 4611686018427387904) (b2 : n2 ≤ 4611686018427387904) (b3 : n3 ≤ 4611686018427387904) (b4 : n4 ≤ 4611686018427387904) (b5 : s.size ≤ 4611686018427387904) (h : 300 < n1 ∨ 20 < n2 ∨ 300 < n3 ∨ 300 < n4 ∨ 300 < s.size) (hg : Han w) :
    Calls Tryd.prog 3 #[.slice A1 n1 c1, .slice A2 n2 c2, .slice A3 n3 c3, .slice A4 n4 c4, .string s] w fun e w' => e = .returned (.bool true) ∧ Below w.heap.size w w' := by
  have HG := Lib.hid hg
  clear hg
  by_cases h1 : 300 < n1
  · clear h
    go_enter Tryd.func3, Tryd.ntmps3
    go_wp2_with (go_at_call 8; refine (awake_any P _ HG.out).mono ?_; rintro e w' ⟨rfl, hb⟩)
    go_ret
    exact ⟨rfl, hb⟩
  · by_cases h2 : 20 < n2
    · clear h
      go_enter Tryd.func3, Tryd.ntmps3
      go_wp2_with (go_at_call 8; refine (awake_any P _ HG.out).mono ?_; rintro e w' ⟨rfl, hb⟩)
      go_ret
      exact ⟨rfl, hb⟩
    · by_cases h3 : 300 < n3
      · clear h
        go_enter Tryd.func3, Tryd.ntmps3
        go_wp2_with (go_at_call 8; refine (awake_any P _ HG.out).mono ?_; rintro e w' ⟨rfl, hb⟩)
        go_ret
        exact ⟨rfl, hb⟩
      · by_cases h4 : 300 < n4
        · clear h
          go_enter Tryd.func3, Tryd.ntmps3
          go_wp2_with (go_at_call 8; refine (awake_any P _ HG.out).mono ?_; rintro e w' ⟨rfl, hb⟩)
          go_ret
          exact ⟨rfl, hb⟩
        · have h5 : 300 < s.size := by omega
          clear h
          go_enter Tryd.func3, Tryd.ntmps3
          go_wp2_with (go_at_call 8; refine (awake_any P _ HG.out).mono ?_; rintro e w' ⟨rfl, hb⟩)
          go_ret
          exact ⟨rfl, hb⟩

set_option maxRecDepth 100000 in
set_option maxHeartbeats 8000000 in
theorem codeLays_small {pr : Nat → Nat → Nat → List Int → Bool → World → Prop} (P : CodeOk pr) (A1 A2 A3 A4 : Option Addr) (n1 n2 n3 n4 c1 c2 c3 c4 : Nat) (b ns p q : List Int) (s : ByteArray) (w : World) (h1 : Base w A1 n1 c1 b) (e2 : n2 = ns.length) (h2 : Has .i64 w w.heap.size A2 ns) (k2 : A2 = none → n2 = 0 ∧ c2 = 0) (m2 : n2 ≤ c2) (h3 : Base w A3 n3 c3 p) (h4 : Base w A4 n4 c4 q) (b1 : n1 ≤ 300) (b2 : n2 ≤ 20) (b3 : n3 ≤ 300) (b4 : n4 ≤ 300) (b5 : s.size ≤ 300) (hg : Han w) :
    Calls Tryd.prog 3 #[.slice A1 n1 c1, .slice A2 n2 c2, .slice A3 n3 c3, .slice A4 n4 c4, .string s] w fun e w' => e = .returned (.bool true) ∧ Below w.heap.size w w' := by
  have HG := Lib.hid hg
  have E1 := Lib.hid h1.1
  have E2 := Lib.hid e2
  have H1 := Lib.hid h1
  have H2 := Lib.hid h2
  have K2 := Lib.hid k2
  have M2 := Lib.hid m2
  have HB : Hid (Bases [(A1, n1, c1, b), (A3, n3, c3, p), (A4, n4, c4, q)] w) := Bases.push (Bases.push (Bases.push (fun r hr => by cases hr) h4) h3) h1
  clear hg h1 e2 h2 k2 m2 h3 h4
  go_enter Tryd.func3, Tryd.ntmps3
  go_wp2_with fail
  refine (lend_l (HB.out.get A1 n1 c1 b (by simp)) (by omega)).mono ?_
  rintro e w1 ⟨g, rfl, hl, hb⟩
  have B1 := Lib.hid hb
  have L1 := Lib.hid hl
  have HB1 := Lib.hid ((HB.out.next hb).push (lent_base hl E1.out (by omega)))
  have N1 := Lib.hid (has_next H2.out hb)
  have G1 := Lib.hid (lentB_block hl)
  clear hb hl HB
  go_wp2_with fail
  refine (num_any_l P (HB1.out.get (some ⟨g, 0, none⟩) n1 (n1 + 3) b (by simp)) E2.out N1.out K2.out M2.out (by omega)).mono ?_
  rintro e w2 ⟨A5, c5, rfl, ho, hb⟩
  have B2 := Lib.hid (below_next B1.out hb)
  have S2 := Lib.hid hb.size
  have X2 := Lib.hid ho
  have L2 := Lib.hid (own_next L1.out hb)
  have HB2 := Lib.hid ((HB1.out.next hb).push (Base.own ho (by omega)))
  have N2 := Lib.hid (has_next N1.out hb)
  clear ho hb HB1 B1 N1 L1
  go_wp2_with fail
  refine (bytes_two P (HB2.out.get (some ⟨g, 0, none⟩) n1 (n1 + 3) b (by simp)) (HB2.out.get A3 n3 c3 p (by simp)) (HB2.out.get A4 n4 c4 q (by simp)) (by omega) (by omega)).mono ?_
  rintro e w3 ⟨A6, c6, rfl, ho, hb⟩
  have B3 := Lib.hid (below_next B2.out hb)
  have S3 := Lib.hid hb.size
  have X3 := Lib.hid (own_next X2.out hb)
  have L3 := Lib.hid (own_next L2.out hb)
  have HB3 := Lib.hid ((HB2.out.next hb).push (Base.own ho (by omega)))
  have N3 := Lib.hid (has_next N2.out hb)
  have XL : Hid (∀ q, (Value.slice A5 (n1 + 8 * n2) c5).ownBlock = some q → w1.heap.size ≤ q ∧ q < w2.heap.size) := fun q hq => X2.out.lt q hq
  clear ho hb HB2 B2 N2 L2 X2
  go_wp2_with fail
  refine (text_any_l P s (HB3.out.get (some ⟨g, 0, none⟩) n1 (n1 + 3) b (by simp)) (by omega)).mono ?_
  rintro e w4 ⟨A7, c7, rfl, ho, hb⟩
  have B4 := Lib.hid (below_next B3.out hb)
  have X4 := Lib.hid (own_next X3.out hb)
  have L4 := Lib.hid (own_next L3.out hb)
  have Z4 := Lib.hid ho
  have S4 := Lib.hid hb.size
  have HB4 := Lib.hid ((HB3.out.next hb).push (Base.own ho (by omega)))
  have N4 := Lib.hid (has_next N3.out hb)
  clear ho hb HB3 B3 N3 L3 X3
  go_wp2_with fail
  refine (refNumber_l (HB4.out.get A1 n1 c1 b (by simp)) E2.out N4.out (by omega)).mono ?_
  rintro e w5 ⟨A8, c8, rfl, ho, hb⟩
  have B5 := Lib.hid (below_next B4.out hb)
  have X5 := Lib.hid (own_next X4.out hb)
  have L5 := Lib.hid (own_next L4.out hb)
  have Z5 := Lib.hid (own_next Z4.out hb)
  have S5 := Lib.hid hb.size
  have HB5 := Lib.hid ((HB4.out.next hb).push (Base.own ho (by omega)))
  clear ho hb HB4 B4 N4 L4 X4 Z4
  go_wp2_with fail
  refine (same_yes (HB5.out.get A5 (n1 + 8 * n2) c5 (b ++ beL ns) (by simp)) (HB5.out.get A8 (n1 + 8 * n2) c8 (b ++ beL ns) (by simp)) rfl).mono ?_
  rintro e w6 ⟨rfl, hb⟩
  have B6 := Lib.hid (below_next B5.out hb)
  have X6 := Lib.hid (own_next X5.out hb)
  have L6 := Lib.hid (own_next L5.out hb)
  have Z6 := Lib.hid (own_next Z5.out hb)
  have S6 := Lib.hid hb.size
  have HB6 := Lib.hid (HB5.out.next hb)
  clear hb HB5 B5 L5 X5 Z5
  go_wp2_with fail
  refine (refBytes_two (HB6.out.get A1 n1 c1 b (by simp)) (HB6.out.get A3 n3 c3 p (by simp)) (HB6.out.get A4 n4 c4 q (by simp)) (by omega) (by omega)).mono ?_
  rintro e w7 ⟨A9, c9, rfl, ho, hb⟩
  have B7 := Lib.hid (below_next B6.out hb)
  have X7 := Lib.hid (own_next X6.out hb)
  have L7 := Lib.hid (own_next L6.out hb)
  have Z7 := Lib.hid (own_next Z6.out hb)
  have S7 := Lib.hid hb.size
  have HB7 := Lib.hid ((HB6.out.next hb).push (Base.own ho (by omega)))
  clear ho hb HB6 B6 L6 X6 Z6
  go_wp2_with fail
  refine (same_yes (HB7.out.get A6 (n1 + n3 + n4 + 16) c6 (b ++ twoL p q) (by simp)) (HB7.out.get A9 (n1 + n3 + n4 + 16) c9 (b ++ twoL p q) (by simp)) rfl).mono ?_
  rintro e w8 ⟨rfl, hb⟩
  have B8 := Lib.hid (below_next B7.out hb)
  have X8 := Lib.hid (own_next X7.out hb)
  have L8 := Lib.hid (own_next L7.out hb)
  have Z8 := Lib.hid (own_next Z7.out hb)
  have S8 := Lib.hid hb.size
  have HB8 := Lib.hid (HB7.out.next hb)
  clear hb HB7 B7 L7 X7 Z7
  go_wp2_with fail
  refine (refText_l s (HB8.out.get A1 n1 c1 b (by simp)) (by omega)).mono ?_
  rintro e w9 ⟨A10, c10, rfl, ho, hb⟩
  have B9 := Lib.hid (below_next B8.out hb)
  have X9 := Lib.hid (own_next X8.out hb)
  have L9 := Lib.hid (own_next L8.out hb)
  have Z9 := Lib.hid (own_next Z8.out hb)
  have S9 := Lib.hid hb.size
  have HB9 := Lib.hid ((HB8.out.next hb).push (Base.own ho (by omega)))
  clear ho hb HB8 B8 L8 X8 Z8
  go_wp2_with fail
  refine (same_yes (HB9.out.get A7 (n1 + 8 + s.size) c7 (b ++ be8 s.size ++ strNums s) (by simp)) (HB9.out.get A10 (n1 + 8 + s.size) c10 (b ++ be8 s.size ++ strNums s) (by simp)) rfl).mono ?_
  rintro e w10 ⟨rfl, hb⟩
  have B10 := Lib.hid (below_next B9.out hb)
  have X10 := Lib.hid (own_next X9.out hb)
  have L10 := Lib.hid (own_next L9.out hb)
  have Z10 := Lib.hid (own_next Z9.out hb)
  have S10 := Lib.hid hb.size
  clear hb HB9 B9 L9 X9 Z9
  go_wp2_with fail
  refine (over_own X10.out (by have := S2.out; have := S3.out; have := S4.out; have := S5.out; have := S6.out; have := S7.out; have := S8.out; have := S9.out; have := S10.out; omega) (by omega)).mono ?_
  rintro e w11 ⟨rfl, hgr⟩
  have B11 : Hid (Below w.heap.size w w11) := B10.out.grown hgr B10.out.size (fun k hk => by have := (XL.out k hk).1; have := G1.out; omega)
  have L11 : Hid (LentB w11 w.heap.size g b) := L10.out.kept hgr (.inr (fun e => by have h := (XL.out g e.symm).1; have := G1.out.2; omega))
  have Z11 := Lib.hid (Z10.out.kept hgr (own_apart Z10.out (fun k hk => (XL.out k hk).2) S3.out))
  have S11 := Lib.hid hgr.size
  clear hgr B10 L10 Z10 X10
  go_wp2_with fail
  refine (over_own Z11.out (by have := S4.out; have := S5.out; have := S6.out; have := S7.out; have := S8.out; have := S9.out; have := S10.out; have := S11.out; omega) (by omega)).mono ?_
  rintro e w12 ⟨rfl, hgr⟩
  have ZL : Hid (∀ k, (Value.slice A7 (n1 + 8 + s.size) c7).ownBlock = some k → w3.heap.size ≤ k) := fun k hk => (Z11.out.lt k hk).1
  have B12 : Hid (Below w.heap.size w w12) := B11.out.grown hgr B11.out.size (fun k hk => by have := ZL.out k hk; have := G1.out; have := S2.out; have := S3.out; omega)
  have L12 : Hid (LentB w12 w.heap.size g b) := L11.out.kept hgr (.inr (fun e => by have h := ZL.out g e.symm; have := G1.out.2; have := S2.out; have := S3.out; omega))
  clear hgr B11 L11 Z11
  go_wp2_with fail
  refine (kept_l L12.out (H1.out.next B12.out) (by omega)).mono ?_
  rintro e w13 ⟨rfl, hb⟩
  have B13 := Lib.hid (below_next B12.out hb)
  clear hb B12 L12
  go_wp2_with (go_at_call 8; refine (awake_any P w13 (HG.out.below B13.out)).mono ?_; rintro e w14 ⟨rfl, hb⟩; have B14 := Lib.hid (below_next B13.out hb); clear hb)
  go_ret
  exact ⟨rfl, B14.out⟩
end Go.Proofs.YtmegjjfgiibobaaDoor
