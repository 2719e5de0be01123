/- The law NoncesOnce, walked. -/
import Derived.Test.YtlikjchaamimcaaDoorNe
namespace Go.Proofs.YtlikjchaamimcaaDoor
open Go.RowKit Slices

theorem Tryd.info3 : (Tryd.prog.info? 3).map (fun i => (i.zero, i.size, i.bytes)) = some (some (.int .i64 0), 1, 8) := by kernel_rfl

/-- what holds at each round: the window tells just those that were taken, as far as it goes -/
def OnceAt (w : World) (k : Nat) (h u v : Value) (wr : World) : Prop :=
  ∃ (H : Int) (U : Nat) (tk : List Int), h = .int .i64 H ∧ u = .int .u64 (U : Nat) ∧ MayN H U ∧ tk.length ≤ k ∧ wr.ownsRow w.heap.size 3 1 v tk.length (ints .i64 tk) ∧ Below w.heap.size w wr ∧ (∀ m ∈ tk, 1 ≤ m ∧ m ≤ H) ∧ ∀ m, H - 64 < m → wasB H U m = decide (m ∈ tk)

/-- a number is taken just when it may be -/
theorem once_fresh {H : Int} {U : Nat} {tk : List Int} {n : Int} (m : MayN H U) (h : ∀ m, H - 64 < m → wasB H U m = decide (m ∈ tk)) (h1 : 1 ≤ n) (h2 : n ≤ 1099511627776) (h3 : n ∉ tk) (h4 : H - 64 < n) : FreshN H U n :=
  ⟨m, h1, h2, h4, by rw [h n h4]; exact decide_eq_false h3⟩
theorem once_not {H : Int} {U : Nat} {tk : List Int} {n : Int} (h : ∀ m, H - 64 < m → wasB H U m = decide (m ∈ tk)) (h3 : n ∈ tk) : ¬ FreshN H U n := fun f => by
  have := f.new
  rw [h n f.near, decide_eq_true h3] at this
  cases this
theorem once_next {H : Int} {U : Nat} {tk : List Int} {n : Int} (f : FreshN H U n) (h : ∀ m, H - 64 < m → wasB H U m = decide (m ∈ tk)) : ∀ m, max H n - 64 < m → wasB (max H n) (useU H U n) m = decide (m ∈ tk ++ [n]) := fun m hm => by
  rw [use_was f.near hm, h m (by omega)]
  by_cases e : m = n
  · rw [decide_eq_true e, Bool.true_or]
    exact (decide_eq_true (List.mem_append.2 (.inr (List.mem_singleton.2 e)))).symm
  · rw [decide_eq_false e, Bool.false_or, decide_eq_decide]
    exact ⟨fun q => List.mem_append.2 (.inl q), fun q => (List.mem_append.1 q).elim id fun q => absurd (List.mem_singleton.1 q) e⟩
theorem mem_take_succ {l : List Int} {j : Nat} {n : Int} (h : j < l.length) : decide (n ∈ l.take (j + 1)) = (decide (n ∈ l.take j) || (l.getD j 0 == n)) := by
  rw [List.take_succ_eq_append_getElem h, List.getD_eq_getElem?_getD, List.getElem?_eq_getElem h, Bool.eq_iff_iff, decide_eq_true_iff, Bool.or_eq_true, decide_eq_true_iff, beq_iff_eq, List.mem_append, List.mem_singleton]
  show n ∈ l.take j ∨ n = l[j] ↔ n ∈ l.take j ∨ l[j] = n
  rw [eq_comm (a := n)]

set_option maxRecDepth 100000 in
set_option maxHeartbeats 1000000 in
theorem noncesOnce_big (P : NoncesOk) (A : Option Addr) (n c : Nat) (w : World) (hn : n ≤ 4611686018427387904) (h : 80 < n) (hg : Han w) :
    Calls Tryd.prog 4 #[.slice A n c] w fun e w' => e = .returned (.bool true) ∧ Below w.heap.size w w' := by
  have HG := Lib.hid hg
  clear hg
  go_enter Tryd.func4, Tryd.ntmps4
  go_wp2_with (go_at_call 15; refine (awake_any P w HG.out).mono ?_; rintro e w1 ⟨rfl, hb⟩; have B1 := Lib.hid hb; clear hb)
  go_ret
  exact ⟨rfl, B1.out⟩

set_option maxRecDepth 100000 in
set_option maxHeartbeats 4000000 in
theorem noncesOnce_small (P : NoncesOk) (A : Option Addr) (n c : Nat) (ns : List Int) (w : World) (hn : n = ns.length) (h : Has .i64 w w.heap.size A ns) (fit : ∀ k, k < n → I64 (ns.getD k 0)) (hs : n ≤ 80) (hg : Han w) :
    Calls Tryd.prog 4 #[.slice A n c] w fun e w' => e = .returned (.bool true) ∧ Below w.heap.size w w' := by
  obtain ⟨i0, hi0, hz0, hz1, hz2⟩ := info_parts Tryd.info3
  have HG := Lib.hid hg
  have HN := Lib.hid hn
  have HH := Lib.hid h
  have HF := Lib.hid fit
  clear hg hn h fit
  go_enter Tryd.func4, Tryd.ntmps4
  go_wp2
  go_loopw [3, 4, 5, 6] (fun h u v i wr => ∃ k : Nat, k ≤ n ∧ i = .int .i64 k ∧ OnceAt w k h u v wr) (fun _ _ _ i _ => n - (intOf i).toNat)
  case atStart => exact ⟨0, by omega, rfl, 0, 0, [], rfl, rfl, may_first, by simp, World.ownsRow_nil _ _ _ _, Below.refl _ _, fun m hm => by (cases hm), fun m _ => by unfold wasB; rw [Nat.zero_testBit, Bool.and_false]; rfl⟩
  case round =>
    obtain ⟨k, hk, rfl, H, U, tk, rfl, rfl, mm, tl, ho, hb, hr, hw⟩ := hrel
    obtain ⟨A5, c5, rfl⟩ := own_slice ho
    have MM := Lib.hid mm
    have HO := Lib.hid ho
    have HB := Lib.hid hb
    have HR := Lib.hid hr
    have HW := Lib.hid hw
    have q1 := mm.lo
    have q2 := mm.hi
    clear mm ho hb hr hw
    by_cases hlt : k < n
    · obtain ⟨a, rfl, hab, ha⟩ := HH.out k (by rw [← HN.out]; exact hlt)
      have fx := HF.out k hlt
      obtain ⟨x, hx⟩ : ∃ x, x = ns.getD k 0 := ⟨_, rfl⟩
      rw [← hx] at ha fx
      have FX := Lib.hid fx
      have f1 := fx.1
      have f2 := fx.2
      have hc := (HB.out.cell (by rw [add_block]; exact hab)).trans ha
      clear hx fx ha
      go_wp2
      go_loopw [8, 9] (fun b i wr' => ∃ j : Nat, j ≤ tk.length ∧ i = .int .i64 j ∧ b = .bool (decide (x ∈ tk.take j)) ∧ wr' = wr) (fun _ i _ => tk.length - (intOf i).toNat)
      case atStart => exact ⟨0, by omega, rfl, by simp, rfl⟩
      case round =>
        obtain ⟨j, hj, rfl, rfl, rfl⟩ := hrel
        by_cases hjt : j < tk.length
        · have ht := mem_take_succ (n := x) hjt
          obtain ⟨y, hy⟩ : ∃ y, y = tk.getD j 0 := ⟨_, rfl⟩
          rw [← hy] at ht
          obtain ⟨a', rfl, _, hc'⟩ := own_read HO.out j hjt
          rw [← hy] at hc'
          cases hbit : decide (x ∈ tk.take j) with
          | true =>
            rw [hbit, Bool.true_or] at ht
            have HT := Lib.hid ht
            clear ht hbit hy hc'
            go_wp2
            go_roundw
            case rel => exact ⟨j + 1, by omega, by go_num, by rw [HT.out], trivial⟩
            case measure => simp [intOf]; omega
          | false =>
            rw [hbit, Bool.false_or] at ht
            have HT := Lib.hid ht
            clear ht hbit hy
            go_wp2
            go_roundw
            case rel => exact ⟨j + 1, by omega, by go_num, by rw [HT.out], trivial⟩
            case measure => simp [intOf]; omega
        · obtain rfl : j = tk.length := by omega
          rw [List.take_length]
          clear hjt hj
          by_cases f : FreshN H U x
          · have n1 := f.lo
            have n2 := f.hi
            have n4 := f.near
            have n3 : x ∉ tk := fun q => once_not HW.out q f
            have HFR := Lib.hid f
            have FC := Lib.hid (freshC_yes f)
            have hm := f.use
            have I0 : Hid (I64 H) := i64_of q1 q2
            rw [decide_eq_false n3]
            have N3 := Lib.hid n3
            obtain ⟨X, hX⟩ : ∃ X, X = max H x := ⟨_, rfl⟩
            obtain ⟨Y, hY⟩ : ∃ Y, Y = useU H U x := ⟨_, rfl⟩
            rw [← hX, ← hY] at hm
            have I1 : Hid (I64 X) := i64_of hm.lo hm.hi
            have x2 := hm.hi
            have HM := Lib.hid hm
            have MC := Lib.hid (mayC_yes hm)
            have X1 := Lib.hid hX.symm
            have Y1 := Lib.hid hY.symm
            clear f n3 hm hX hY
            go_wp2_with fail
            refine (P.use H U x _ I0.out MM.out.fit FX.out).mono ?_
            rw [useH_yes HFR.out, useW_yes HFR.out, useE_yes HFR.out, X1.out, Y1.out]
            rintro e w2 ⟨v, rfl, he, hb⟩
            obtain rfl := he.none
            have B2 := Lib.hid (below_next HB.out hb)
            have O2 := Lib.hid (own_next HO.out hb)
            clear hb he HB HO
            go_wp2_with fail
            refine (P.fresh H U x w2 I0.out MM.out.fit FX.out).mono ?_
            rw [FC.out]
            rintro e w3 ⟨rfl, hb⟩
            have B3 := Lib.hid (below_next B2.out hb)
            have O3 := Lib.hid (own_next O2.out hb)
            clear hb B2 O2
            have hl : (H < x ∧ x = X) ∨ (x ≤ H ∧ H = X) := by
              have := X1.out
              omega
            rcases hl with ⟨hl, hX⟩ | ⟨hl, hX⟩
            all_goals
              have t1 : (X != max H x) = false := by rw [X1.out]; simp
              subst hX
              go_wp2_with fail
              refine (P.may _ Y w3 I1.out HM.out.fit).mono ?_
              rw [MC.out]
              rintro e w4 ⟨rfl, hb⟩
              have B4 := Lib.hid (below_next B3.out hb)
              have O4 := Lib.hid (own_next O3.out hb)
              clear hb B3 O3
              have NX : Hid (∀ m, max H x - 64 < m → wasB (max H x) Y m = decide (m ∈ tk ++ [x])) := by
                have q := once_next HFR.out HW.out
                rw [Y1.out] at q
                exact q
              rw [X1.out] at NX
              have RX : Hid (∀ m ∈ tk ++ [x], 1 ≤ m ∧ m ≤ max H x) := fun m hm => by
                rcases List.mem_append.1 hm with q | q
                · have := HR.out m q; omega
                · have := List.mem_singleton.1 q; omega
              rw [X1.out] at RX
              clear HR HW HFR FC MC t1
              go_wp2_with (at_builtin; refine append_any _ rfl (.tmp 103) (.tmp 105) 33 rfl w.heap.size 3 i0 (.int .i64 0) 1 8 Tryd.underlying33 hi0 hz0 hz1 hz2 rfl (by decide) (.slice A5 tk.length c5) tk.length _ rfl (O4.out.alloc _) (some ⟨w4.heap.size, 0, none⟩) 1 1 [.int .i64 x] rfl rfl (fun h => by cases h) (fun ad e => by injection e with e; subst e; exact World.news_of_block (cs := #[.int .i64 x]) (t := 3) (fr := (0, 0)) (heap_alloc_new w4 _)) (by simp [Value.oneCell']) (by unfold maxLen; omega) (by omega) (by have := B4.out.size; simp; omega) ?_; intro v5 w5 hown hgr; have O5 := Lib.hid hown; have G5 := Lib.hid hgr; clear hown hgr)
              have N5 : Hid (Below w.heap.size w w5) := (B4.out.alloc B4.out.size _).grown G5.out (by have := B4.out.size; simp; omega) (fun q hq => (O4.out.lt q hq).1)
              have L5 : (tk ++ [x]).length = tk.length + 1 := by simp
              have P5 : Hid (w5.ownsRow w.heap.size 3 1 v5 (tk ++ [x]).length (ints .i64 (tk ++ [x]))) := by
                have q := O5.out
                rw [ints_snoc] at q
                rw [L5]
                exact q
              clear O5 G5 O4 B4
              go_roundw
              case rel => exact ⟨k + 1, by omega, by go_num, _, Y, tk ++ [x], rfl, rfl, HM.out, by rw [L5]; omega, P5.out, N5.out, RX.out, NX.out⟩
              case measure => simp [intOf]; omega
          · have HFR := Lib.hid f
            have FC := Lib.hid (freshC_no f)
            have E8 := Lib.hid (useE_8 f MM.out)
            have I0 : Hid (I64 H) := i64_of q1 q2
            obtain ⟨B, hB⟩ : ∃ B, B = decide (x ∈ tk) := ⟨_, rfl⟩
            rw [← hB]
            have hc5 : (B = true ∧ 1 ≤ x ∧ x ≤ 1099511627776) ∨ (B = false ∧ x < 1) ∨ (B = false ∧ 1099511627776 < x) ∨ (B = false ∧ 1 ≤ x ∧ x ≤ 1099511627776 ∧ x ≤ H - 64) := by
              by_cases a1 : x ∈ tk
              · have := HR.out x a1
                exact .inl ⟨by rw [hB, decide_eq_true a1], by omega, by omega⟩
              · have b0 : B = false := by rw [hB, decide_eq_false a1]
                by_cases a2 : 1 ≤ x
                · by_cases a3 : x ≤ 1099511627776
                  · by_cases a4 : H - 64 < x
                    · exact absurd (once_fresh MM.out HW.out a2 a3 a1 a4) f
                    · exact .inr (.inr (.inr ⟨b0, a2, a3, by omega⟩))
                  · exact .inr (.inr (.inl ⟨b0, by omega⟩))
                · exact .inr (.inl ⟨b0, by omega⟩)
            clear f hB
            rcases hc5 with ⟨rfl, x1, x2⟩ | ⟨rfl, x1⟩ | ⟨rfl, x1⟩ | ⟨rfl, x1, x2, x3⟩
            all_goals
              go_wp2_with fail
              refine (P.use H U x _ I0.out MM.out.fit FX.out).mono ?_
              rw [useH_no HFR.out, useW_no HFR.out, E8.out]
              rintro e w2 ⟨v, rfl, he, hb⟩
              obtain ⟨pp, hv⟩ := he.some (by decide)
              have E2 := Lib.hid he
              subst hv
              have B2 := Lib.hid (below_next HB.out hb)
              have O2 := Lib.hid (own_next HO.out hb)
              clear hb he HB HO
              go_wp2_with fail
              refine (P.fresh H U x w2 I0.out MM.out.fit FX.out).mono ?_
              rw [FC.out]
              rintro e w3 ⟨rfl, hb⟩
              have B3 := Lib.hid (below_next B2.out hb)
              have O3 := Lib.hid (own_next O2.out hb)
              have E3 := Lib.hid (E2.out.next hb)
              clear hb B2 O2 E2
              go_wp2_with fail
              refine (num_any 8 _ w3 (HG.out.below B3.out) E3.out).mono ?_
              rintro e w4 ⟨rfl, hb⟩
              have B4 := Lib.hid (below_next B3.out hb)
              have O4 := Lib.hid (own_next O3.out hb)
              clear hb B3 O3 E3
              go_wp2
              go_roundw
              case rel => exact ⟨k + 1, by omega, by go_num, H, U, tk, rfl, rfl, MM.out, by omega, O4.out, B4.out, HR.out, HW.out⟩
              case measure => simp [intOf]; omega
    · have e : k = n := by omega
      go_wp2_with fail
      refine (awake_any P _ (HG.out.below HB.out)).mono ?_
      rintro e w1 ⟨rfl, hb⟩
      have B1 := Lib.hid (below_next HB.out hb)
      clear hb HB
      go_wp2
      go_ret
      exact ⟨rfl, B1.out⟩
end Go.Proofs.YtlikjchaamimcaaDoor
