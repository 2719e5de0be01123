/- The law CodeJoins, walked. -/
import Derived.Test.YtmegjjfgiibobaaDoorCo
import Derived.Deep.RegionWith
namespace Go.Proofs.YtmegjjfgiibobaaDoor
open Go.RowKit Slices Go.Proofs.YtmegjjfgiibobaaDoor.Bit

/-- slices that read as they should, and may be appended to -/
def Bases (rs : List (Option Addr × Nat × Nat × List Int)) (w : World) : Prop := ∀ r ∈ rs, Base w r.1 r.2.1 r.2.2.1 r.2.2.2
theorem Bases.next {rs : List (Option Addr × Nat × Nat × List Int)} {w w' : World} (h : Bases rs w) (hb : Below w.heap.size w w') : Bases rs w' := fun r hr => (h r hr).next hb
theorem Bases.push {rs : List (Option Addr × Nat × Nat × List Int)} {w : World} {A : Option Addr} {n c : Nat} {l : List Int} (h : Bases rs w) (h' : Base w A n c l) : Bases ((A, n, c, l) :: rs) w := fun r hr => by
  rcases List.mem_cons.1 hr with rfl | hr
  · exact h'
  · exact h r hr
theorem Bases.get {rs : List (Option Addr × Nat × Nat × List Int)} {w : World} (h : Bases rs w) (A : Option Addr) (n c : Nat) (l : List Int) (hm : (A, n, c, l) ∈ rs) : Base w A n c l := h _ hm
theorem Base.conv {w : World} {A : Option Addr} {n c : Nat} {l : List Int} (h : Base w A n c l) : (convert 22 9 (.slice A n c)).run Tryd.prog w = .ok (.string (strOfNums l)) w := conv_has (n := n) (c := c) h.2.1 h.1.symm
theorem same_bases {A A' : Option Addr} {n c n' c' : Nat} {l l' : List Int} {w : World} (h : Base w A n c l) (h' : Base w A' n' c' l') :
    Calls Tryd.prog 13 #[.slice A n c, .slice A' n' c'] w fun e w' => e = .returned (.bool (decide (l = l'))) ∧ Below w.heap.size w w' :=
  sameB_dec A A' c c' n n' l l' w h.1 h'.1 (Nat.le_trans h.2.2.2.2 (by decide)) (Nat.le_trans h'.2.2.2.2 (by decide)) h.2.1 h'.2.1

theorem same_yes {A A' : Option Addr} {n c n' c' : Nat} {l l' : List Int} {w : World} (h : Base w A n c l) (h' : Base w A' n' c' l') (e : l = l') :
    Calls Tryd.prog 13 #[.slice A n c, .slice A' n' c'] w fun e w' => e = .returned (.bool true) ∧ Below w.heap.size w w' :=
  (same_bases h h').mono fun _ _ q => ⟨by rw [q.1, decide_eq_true e], q.2⟩
set_option maxRecDepth 100000 in
set_option maxHeartbeats 1000000 in
theorem codeJoins_big {pr : Nat → Nat → Nat → List Int → Bool → World → Prop} (P : CodeOk pr) (A1 A2 A3 : Option Addr) (n1 n2 n3 c1 c2 c3 : Nat) (n : Int) (w : World) (b1 : n1 ≤ 4611686018427387904) (b2 : n2 ≤ 4611686018427387904) (b3 : n3 ≤ 4611686018427387904) (h : 200 < n1 ∨ 200 < n2 ∨ 200 < n3) (hg : Han w) :
    Calls Tryd.prog 7 #[.slice A1 n1 c1, .slice A2 n2 c2, .slice A3 n3 c3, .int .i64 n] w fun e w' => e = .returned (.bool true) ∧ Below w.heap.size w w' := by
  have HG := Lib.hid hg
  clear hg
  by_cases h1 : 200 < n1
  · clear h
    go_enter Tryd.func7, Tryd.ntmps7
    go_wp2_with (go_at_call 8; refine (awake_any P _ HG.out).mono ?_; rintro e w' ⟨rfl, hb⟩)
    go_ret
    exact ⟨rfl, hb⟩
  · by_cases h2 : 200 < n2
    · clear h
      go_enter Tryd.func7, Tryd.ntmps7
      go_wp2_with (go_at_call 8; refine (awake_any P _ HG.out).mono ?_; rintro e w' ⟨rfl, hb⟩)
      go_ret
      exact ⟨rfl, hb⟩
    · have h3 : 200 < n3 := by omega
      clear h
      go_enter Tryd.func7, Tryd.ntmps7
      go_wp2_with (go_at_call 8; refine (awake_any P _ HG.out).mono ?_; rintro e w' ⟨rfl, hb⟩)
      go_ret
      exact ⟨rfl, hb⟩


set_option maxRecDepth 100000 in
set_option maxHeartbeats 8000000 in
theorem codeJoins_small {pr : Nat → Nat → Nat → List Int → Bool → World → Prop} (P : CodeOk pr) (A1 A2 A3 : Option Addr) (n1 n2 n3 c1 c2 c3 : Nat) (b p q : List Int) (n : Int) (w : World) (h1 : Base w A1 n1 c1 b) (h2 : Base w A2 n2 c2 p) (h3 : Base w A3 n3 c3 q) (fp : Fit 8 p) (fq : Fit 8 q) (b1 : n1 ≤ 200) (b2 : n2 ≤ 200) (b3 : n3 ≤ 200) (hg : Han w) :
    Calls Tryd.prog 7 #[.slice A1 n1 c1, .slice A2 n2 c2, .slice A3 n3 c3, .int .i64 n] w fun e w' => e = .returned (.bool true) ∧ Below w.heap.size w w' := by
  have HG := Lib.hid hg
  have FP := Lib.hid fp
  have FQ := Lib.hid fq
  have E2 := Lib.hid h2.1
  have E3 := Lib.hid h3.1
  have HB : Hid (Bases [(A1, n1, c1, b), (A2, n2, c2, p), (A3, n3, c3, q)] w) := Bases.push (Bases.push (Bases.push (fun r hr => by cases hr) h3) h2) h1
  clear hg h1 h2 h3 fp fq
  go_enter Tryd.func7, Tryd.ntmps7
  go_wp2_with fail
  refine (bytes_two P (HB.out.get A1 n1 c1 b (by simp)) (HB.out.get A2 n2 c2 p (by simp)) (HB.out.get A3 n3 c3 q (by simp)) (by omega) (by omega)).mono ?_
  rintro e w1 ⟨A4, c4, rfl, ho, hb⟩
  have B1 := Lib.hid hb
  have HB1 := Lib.hid ((HB.out.next hb).push (Base.own ho (by omega)))
  clear ho hb HB
  go_wp2_with fail
  refine (bytes_one P (HB1.out.get A1 n1 c1 b (by simp)) (HB1.out.get A2 n2 c2 p (by simp)) (by omega)).mono ?_
  rintro e w2 ⟨A5, c5, rfl, ho, hb⟩
  have B2 := Lib.hid (below_next B1.out hb)
  have HB2 := Lib.hid ((HB1.out.next hb).push (Base.own ho (by omega)))
  clear ho hb HB1 B1
  go_wp2_with fail
  refine (bytes_one P (HB2.out.get A5 (n1 + n2 + 8) c5 (b ++ oneL p) (by simp)) (HB2.out.get A3 n3 c3 q (by simp)) (by omega)).mono ?_
  rintro e w3 ⟨A6, c6, rfl, ho, hb⟩
  have B3 := Lib.hid (below_next B2.out hb)
  have HB3 := Lib.hid ((HB2.out.next hb).push (Base.own ho (by omega)))
  clear ho hb HB2 B2
  have HF : Hid (∀ W, Below w3.heap.size w3 W → Below w3.heap.size w3 W ∧ (convert 22 9 (.slice A2 n2 c2)).run Tryd.prog W = .ok (.string (strOfNums p)) W ∧ (convert 22 9 (.slice A3 n3 c3)).run Tryd.prog W = .ok (.string (strOfNums q)) W) := fun W hb =>
    ⟨hb, ((HB3.out.get A2 n2 c2 p (by simp)).next hb).conv, ((HB3.out.get A3 n3 c3 q (by simp)).next hb).conv⟩
  have D0 : Hid (Below w3.heap.size w3 w3.drew) := (Below.refl _ _).drew
  have D1 : Hid (Base w3.drew A1 n1 c1 b) := (HB3.out.get A1 n1 c1 b (by simp)).next D0.out
  have D2 : Hid (n2 ≤ 4000) := by show n2 ≤ 4000; omega
  have D3 : Hid (n3 ≤ 4000) := by show n3 ≤ 4000; omega
  have D4 : Hid (n1 + n2 + 8 ≤ 10000) := by show n1 + n2 + 8 ≤ 10000; omega
  obtain ⟨s0, s1, s2⟩ := HF.out _ (Below.refl _ _)
  go_wp2
  go_region_held3 (fun w' => Below w3.heap.size w3 w' ∧ (convert 22 9 (.slice A2 n2 c2)).run Tryd.prog w' = .ok (.string (strOfNums p)) w' ∧ (convert 22 9 (.slice A3 n3 c3)).run Tryd.prog w' = .ok (.string (strOfNums q)) w')
    (first
      | (refine HF.out _ ?_; first | assumption | exact D0.out))
    (first
      | (go_at_call 12; (with_reducible refine (text_one P D1.out E2.out FP.out D2.out).mono ?_); rintro e w4 ⟨A7, c7, rfl, ho, hb⟩; have X7 := Lib.hid (Base.own ho D4.out); have hb4 := below_next D0.out hb; have B4 := Lib.hid hb4; clear ho hb)
      | (go_at_call 12; (with_reducible refine (text_one P X7.out E3.out FQ.out D3.out).mono ?_); rintro e w5 ⟨A8, c8, rfl, ho, hb⟩; have O8 := Lib.hid ho; have hb5 := below_next B4.out hb; clear hb ho))
  have B5 := Lib.hid (below_next B3.out hb5)
  have HB5 := Lib.hid ((HB3.out.next hb5).push (Base.own O8.out (by omega)))
  clear HF D0 D1 D2 D3 D4
  obtain ⟨R, hR⟩ : ∃ R, decide (p = q) = R := ⟨_, rfl⟩
  have D1 : Hid (b ++ twoL p q = b ++ oneL p ++ oneL q) := by
    show _ = _
    rw [twoL_one, List.append_assoc]
  have D2 : Hid (decide (twoL p q = twoL q p) = R) := by
    show _ = _
    rw [← hR, decide_eq_decide]
    exact parts_swap p q (by have := E2.out; omega) (by have := E3.out; omega)
  have D3 : Hid (decide (p = q) = R) := hR
  clear hR s0 s1 s2 hb5 O8 HB3 B3 X7 B4
  go_wp2_with fail
  refine (bytes_two0 P (HB5.out.get A2 n2 c2 p (by simp)) (HB5.out.get A3 n3 c3 q (by simp)) (by omega) (by omega)).mono ?_
  rintro e w6 ⟨A9, c9, rfl, ho, hb⟩
  have B6 := Lib.hid (below_next B5.out hb)
  have HB6 := Lib.hid ((HB5.out.next hb).push (Base.own ho (by omega)))
  clear ho hb HB5 B5
  go_wp2_with fail
  refine (bytes_two0 P (HB6.out.get A3 n3 c3 q (by simp)) (HB6.out.get A2 n2 c2 p (by simp)) (by omega) (by omega)).mono ?_
  rintro e w7 ⟨A10, c10, rfl, ho, hb⟩
  have B7 := Lib.hid (below_next B6.out hb)
  have HB7 := Lib.hid ((HB6.out.next hb).push (Base.own ho (by omega)))
  clear ho hb HB6 B6
  go_wp2_with fail
  refine (num_one0 P n).mono ?_
  rintro e w8 ⟨A11, c11, rfl, ho, hb⟩
  have B8 := Lib.hid (below_next B7.out hb)
  have HB8 := Lib.hid ((HB7.out.next hb).push (Base.own ho (by omega)))
  clear ho hb HB7 B7
  go_wp2_with fail
  refine (num_one P (n2 : Int) (HB8.out.get A11 8 c11 (be8 n) (by simp))).mono ?_
  rintro e w9 ⟨A12, c12, rfl, ho, hb⟩
  have B9 := Lib.hid (below_next B8.out hb)
  have HB9 := Lib.hid ((HB8.out.next hb).push (Base.own ho (by omega)))
  clear ho hb HB8 B8
  go_wp2_with fail
  refine (same_yes (HB9.out.get A4 (n1 + n2 + n3 + 16) c4 (b ++ twoL p q) (by simp)) (HB9.out.get A6 (n1 + n2 + 8 + n3 + 8) c6 (b ++ oneL p ++ oneL q) (by simp)) D1.out).mono ?_
  rintro e w10 ⟨rfl, hb⟩
  have B10 := Lib.hid (below_next B9.out hb)
  have HB10 := Lib.hid (HB9.out.next hb)
  clear hb HB9 B9
  go_wp2_with fail
  refine (same_yes (HB10.out.get A4 (n1 + n2 + n3 + 16) c4 (b ++ twoL p q) (by simp)) (HB10.out.get A8 (n1 + n2 + 8 + n3 + 8) c8 (b ++ oneL p ++ oneL q) (by simp)) D1.out).mono ?_
  rintro e w11 ⟨rfl, hb⟩
  have B11 := Lib.hid (below_next B10.out hb)
  have HB11 := Lib.hid (HB10.out.next hb)
  clear hb HB10 B10
  go_wp2_with fail
  refine (same_bases (HB11.out.get A9 (n2 + n3 + 16) c9 (twoL p q) (by simp)) (HB11.out.get A10 (n3 + n2 + 16) c10 (twoL q p) (by simp))).mono ?_
  rw [D2.out]
  rintro e w12 ⟨rfl, hb⟩
  have B12 := Lib.hid (below_next B11.out hb)
  have HB12 := Lib.hid (HB11.out.next hb)
  clear hb HB11 B11
  go_wp2_with fail
  refine (same_bases (HB12.out.get A2 n2 c2 p (by simp)) (HB12.out.get A3 n3 c3 q (by simp))).mono ?_
  rw [D3.out]
  rintro e w13 ⟨rfl, hb⟩
  have B13 := Lib.hid (below_next B12.out hb)
  have HB13 := Lib.hid (HB12.out.next hb)
  clear hb HB12 B12
  go_wp2_with fail
  refine (num_two0 P n (n2 : Int)).mono ?_
  rintro e w14 ⟨A13, c13, rfl, ho, hb⟩
  have B14 := Lib.hid (below_next B13.out hb)
  have HB14 := Lib.hid ((HB13.out.next hb).push (Base.own ho (by omega)))
  clear ho hb HB13 B13
  go_wp2_with fail
  refine (same_yes (HB14.out.get A12 16 c12 (be8 n ++ be8 n2) (by simp)) (HB14.out.get A13 16 c13 (be8 n ++ be8 n2) (by simp)) rfl).mono ?_
  rintro e w15 ⟨rfl, hb⟩
  have B15 := Lib.hid (below_next B14.out hb)
  clear hb HB14 B14
  go_wp2_with (go_at_call 8; refine (awake_any P w15 (HG.out.below B15.out)).mono ?_; rintro e w16 ⟨rfl, hb⟩; have B16 := Lib.hid (below_next B15.out hb); clear hb)
  go_ret
  exact ⟨rfl, B16.out⟩
end Go.Proofs.YtmegjjfgiibobaaDoor
