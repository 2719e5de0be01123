/- Contracts: which requests may be, and a request's body, by the document's own code. -/
import Derived.Test.YtidpihpddkfhgaaDoorAc
import Derived.BigGuardPart
namespace Go.Proofs.YtidpihpddkfhgaaDoor
open Go.RowKit Slices Go.Proofs.YtidpihpddkfhgaaDoor.Bit

set_option maxRecDepth 100000 in
set_option maxHeartbeats 20000000 in
theorem may_any (a : AskV) (A1 A2 : Option Addr) (c1 c2 : Nat) (w : World) :
    Calls Tryd.prog 13 #[.agg (askVals a A1 c1 A2 c2)] w fun e w' => e = .returned (.bool (decide (MayA a))) ∧ Below w.heap.size w w' := by
  obtain ⟨x0, x1, x2, x3, x4, x5, x6, x7, x8, x9, x10, s, l1, l2⟩ := a
  obtain ⟨R, hR⟩ : ∃ R, R = decide (MayA ⟨x0, x1, x2, x3, x4, x5, x6, x7, x8, x9, x10, s, l1, l2⟩) := ⟨_, rfl⟩
  rw [← hR]
  simp only [askVals]
  have HC : Hid (∀ j, j < 8 → ¬ Clk ([x3, x4, x5, x6, x7, x8, x9, x10].getD j 0) → R = false) := fun j hj hn => by
    rw [hR, decide_eq_false_iff_not]
    rintro ⟨_, _, _, h3, h4, h5, h6, h7, h8, h9, h10, _⟩
    apply hn
    rcases (show j = 0 ∨ j = 1 ∨ j = 2 ∨ j = 3 ∨ j = 4 ∨ j = 5 ∨ j = 6 ∨ j = 7 by omega) with rfl | rfl | rfl | rfl | rfl | rfl | rfl | rfl
    · exact h3
    · exact h4
    · exact h5
    · exact h6
    · exact h7
    · exact h8
    · exact h9
    · exact h10
  have HY : Hid ((∀ j, j < 8 → Clk ([x3, x4, x5, x6, x7, x8, x9, x10].getD j 0)) → R = decide ((1 ≤ x0 ∧ x0 ≤ 6) ∧ (1 ≤ x1 ∧ x1 ≤ 1099511627776) ∧ (1 ≤ x2 ∧ x2 ≤ 13) ∧ s.size ≤ 300 ∧ l1.length ≤ 2000 ∧ l2.length ≤ 100)) := fun h => by
    rw [hR, decide_eq_decide]
    have q3 := h 0 (by omega)
    have q4 := h 1 (by omega)
    have q5 := h 2 (by omega)
    have q6 := h 3 (by omega)
    have q7 := h 4 (by omega)
    have q8 := h 5 (by omega)
    have q9 := h 6 (by omega)
    have q10 := h 7 (by omega)
    constructor
    · rintro ⟨p0, p1, p2, _, _, _, _, _, _, _, _, p3⟩
      exact ⟨p0, p1, p2, p3⟩
    · rintro ⟨p0, p1, p2, p3⟩
      exact ⟨p0, p1, p2, q3, q4, q5, q6, q7, q8, q9, q10, p3⟩
  clear hR
  generalize l1.length = n1 at HY ⊢
  generalize l2.length = n2 at HY ⊢
  go_enter Tryd.func13, Tryd.ntmps13
  have HB0 := heap_alloc_new w (.cells #[.int .i64 x0, .int .i64 x1, .int .i64 x2, .int .i64 x3, .int .i64 x4, .int .i64 x5, .int .i64 x6, .int .i64 x7, .int .i64 x8, .int .i64 x9, .int .i64 x10, .string s, .slice A1 n1 c1, .slice A2 n2 c2] 24)
  have HB := Lib.hid HB0
  clear HB0
  go_wp2_with (refine wpList_load_row rfl 24 _ rfl w.heap.size rfl 24 _ (0, 0) _ HB.out Tryd.underlying24 rfl (by kernel_rfl) ?_)
  refine (numbers_any x0 x1 x2 x3 x4 x5 x6 x7 x8 x9 x10 s A1 A2 n1 c1 n2 c2 _).mono ?_
  rintro e w1 ⟨g1, rfl, hn, hb⟩
  have HN := Lib.hid hn
  have HR1 := Lib.hid (row_below HB.out hb)
  have LW := Lib.hid (below_next (below_new w _) hb)
  clear hn hb HB
  go_wp2
  go_loop [4] (fun i => ∃ k : Nat, k ≤ 8 ∧ i = .int .i64 k ∧ ∀ j, j < k → Clk ([x3, x4, x5, x6, x7, x8, x9, x10].getD j 0)) (fun i => 8 - (intOf i).toNat)
  case atStart => exact ⟨0, by omega, rfl, fun j hj => by omega⟩
  case round =>
    obtain ⟨k, hk, rfl, hq⟩ := hrel
    have HQ := Lib.hid hq
    clear hq
    by_cases hlt : k < 8
    · obtain ⟨a, e, _, ha⟩ := HN.out k hlt
      injection e with e
      subst e
      rw [show (⟨g1, 0, none⟩ : Addr).add k = ⟨g1, k, none⟩ by unfold Addr.add; split <;> simp_all] at ha
      have HC8 := HC.out k hlt
      by_cases hx : Clk ([x3, x4, x5, x6, x7, x8, x9, x10].getD k 0)
      · have HX := Lib.hid hx
        obtain ⟨h0, h1⟩ := hx
        generalize [x3, x4, x5, x6, x7, x8, x9, x10].getD k 0 = x at ha h0 h1
        clear HC8
        go_wp2
        go_round
        case rel => exact ⟨k + 1, by omega, by go_num, fun j hj => by
          by_cases e : j = k
          · subst e; exact HX.out
          · exact HQ.out j (by omega)⟩
        case measure => simp [intOf]; omega
      · have HF := Lib.hid (HC8 hx)
        have hx2 : [x3, x4, x5, x6, x7, x8, x9, x10].getD k 0 < 0 ∨ (0 ≤ [x3, x4, x5, x6, x7, x8, x9, x10].getD k 0 ∧ 1099511627776 < [x3, x4, x5, x6, x7, x8, x9, x10].getD k 0) := by
          unfold Clk at hx
          omega
        clear HC8 hx
        generalize [x3, x4, x5, x6, x7, x8, x9, x10].getD k 0 = x at ha hx2
        rcases hx2 with h0 | ⟨h0, h1⟩
        · have d0 : decide (x < 0) = true := by rw [decide_eq_true_iff]; omega
          go_wp2
          go_ret
          exact ⟨by rw [HF.out]; rfl, LW.out⟩
        · have d0 : decide (x < 0) = false := by rw [decide_eq_false_iff_not]; omega
          have d1 : decide (1099511627776 < x) = true := by rw [decide_eq_true_iff]; omega
          go_wp2
          go_ret
          exact ⟨by rw [HF.out]; rfl, LW.out⟩
    · have e : k = 8 := by omega
      subst e
      have HZ := Lib.hid (HY.out HQ.out)
      have k0 := cell_of_row _ _ 0 _ _ _ HR1.out
      have k1 := cell_of_row _ _ 1 _ _ _ HR1.out
      have k2 := cell_of_row _ _ 2 _ _ _ HR1.out
      have k11 := cell_of_row _ _ 11 _ _ _ HR1.out
      have k12 := cell_of_row _ _ 12 _ _ _ HR1.out
      have k13 := cell_of_row _ _ 13 _ _ _ HR1.out
      simp at k0 k1 k2 k11 k12 k13
      clear HY HC HQ HR1 HN
      go_wp2
      all_goals
        go_ret
        refine ⟨?_, LW.out⟩
        first
        | (have e : R = false := by rw [HZ.out, decide_eq_false_iff_not]; omega
           rw [e]; rfl)
        | (have e : R = decide ((n2 : Int) ≤ 100) := by rw [HZ.out, decide_eq_decide]; omega
           rw [e]; rfl)

theorem may_V {V : Array Value} {a : AskV} {A1 A2 : Option Addr} {c1 c2 : Nat} (hV : V = askVals a A1 c1 A2 c2) (w : World) :
    Calls Tryd.prog 13 #[.agg V] w fun e w' => e = .returned (.bool (decide (MayA a))) ∧ Below w.heap.size w w' := by
  subst hV
  exact may_any a A1 A2 c1 c2 w
theorem laid_V {V : Array Value} {a : AskV} {A1 A2 : Option Addr} {c1 c2 : Nat} (hV : V = askVals a A1 c1 A2 c2) (w : World) (h : AskIn w w.heap.size a A1 c1 A2 c2) (h0 : a.name.size ≤ 4000) (h1 : a.bytes.length ≤ 4000) (h2 : a.token.length ≤ 4000) :
    Calls Tryd.prog 26 #[.agg V] w (Rw w (112 + a.name.size + a.bytes.length + a.token.length) (laidA a)) := by
  subst hV
  exact laid_any a A1 A2 c1 c2 w h h0 h1 h2
theorem may_small {a : AskV} (h : MayA a) : a.name.size ≤ 4000 ∧ a.bytes.length ≤ 4000 ∧ a.token.length ≤ 4000 := by
  obtain ⟨_, _, _, _, _, _, _, _, _, _, _, h1, h2, h3⟩ := h
  omega
/-- what Body answers: its body and no error, or none and the number 2 -/
def BodyIs (a : AskV) (w : World) (e : Ending) (w' : World) : Prop :=
  ∃ A' n' c' k, e = .returned (.tuple #[.slice A' n' c', .int .i64 k]) ∧ Below w.heap.size w w' ∧ (MayA a → k = 0 ∧ n' = (laidA a).length ∧ w'.ownsRow w.heap.size 5 1 (.slice A' n' c') n' (ints .u8 (laidA a))) ∧ (¬ MayA a → k = 2 ∧ n' = 0 ∧ A' = none ∧ c' = 0)

set_option maxRecDepth 100000 in
set_option maxHeartbeats 4000000 in
theorem body_any (a : AskV) (A1 A2 : Option Addr) (c1 c2 : Nat) (w : World) (h : AskIn w w.heap.size a A1 c1 A2 c2) :
    Calls Tryd.prog 9 #[.agg (askVals a A1 c1 A2 c2)] w (BodyIs a w) := by
  have H := Lib.hid h
  clear h
  have HB := Lib.hid (heap_alloc_new w (.cells (askVals a A1 c1 A2 c2) 24))
  have HS : Hid (some ((askVals a A1 c1 A2 c2).size) = some 14) := rfl
  obtain ⟨V, hV⟩ : ∃ V, V = askVals a A1 c1 A2 c2 := ⟨_, rfl⟩
  rw [← hV] at HB HS ⊢
  have HV := Lib.hid hV
  clear hV
  by_cases hm : MayA a
  · have HM : Hid (decide (MayA a) = true) := decide_eq_true hm
    have HL := Lib.hid (may_small hm)
    have HMM := Lib.hid hm
    clear hm
    go_enter Tryd.func9, Tryd.ntmps9
    go_wp2_with (refine wpList_load_row rfl 24 _ rfl w.heap.size rfl 24 _ (0, 0) _ HB.out Tryd.underlying24 rfl (by rw [HS.out]; kernel_rfl) ?_)
    refine (may_V HV.out _).mono ?_
    rw [HM.out]
    rintro e w1 ⟨rfl, hb⟩
    have HR := Lib.hid (row_below HB.out hb)
    have LW := Lib.hid (below_next (below_new w _) hb)
    clear hb
    go_wp2_with (refine wpList_load_row rfl 24 _ rfl w.heap.size rfl 24 _ (0, 0) _ HR.out Tryd.underlying24 rfl (by rw [HS.out]; kernel_rfl) ?_)
    refine (laid_V HV.out _ (H.out.next LW.out) HL.out.1 HL.out.2.1 HL.out.2.2).mono ?_
    rintro e w2 ⟨A', c', rfl, ho, hb⟩
    have HO := Lib.hid (own_down ho LW.out.size)
    have LW2 := Lib.hid (below_next LW.out hb)
    obtain ⟨K, hK⟩ : ∃ K, K = 112 + a.name.size + a.bytes.length + a.token.length := ⟨_, rfl⟩
    rw [← hK] at HO ⊢
    have HK : Hid (K = (laidA a).length) := by show K = _; rw [hK, laidA_len]
    clear ho hb hK
    go_wp2
    go_ret2
    exact ⟨A', K, c', 0, rfl, LW2.out, fun _ => ⟨rfl, HK.out, HO.out⟩, fun h => absurd HMM.out h⟩
  · have HM : Hid (decide (MayA a) = false) := decide_eq_false hm
    have HMM := Lib.hid hm
    clear hm
    go_enter Tryd.func9, Tryd.ntmps9
    go_wp2_with (refine wpList_load_row rfl 24 _ rfl w.heap.size rfl 24 _ (0, 0) _ HB.out Tryd.underlying24 rfl (by rw [HS.out]; kernel_rfl) ?_)
    refine (may_V HV.out _).mono ?_
    rw [HM.out]
    rintro e w1 ⟨rfl, hb⟩
    have LW := Lib.hid (below_next (below_new w _) hb)
    clear hb
    go_wp2
    go_ret2
    exact ⟨none, 0, 0, 2, rfl, LW.out, fun h => absurd h HMM.out, fun _ => ⟨rfl, rfl, rfl, rfl⟩⟩
end Go.Proofs.YtidpihpddkfhgaaDoor
