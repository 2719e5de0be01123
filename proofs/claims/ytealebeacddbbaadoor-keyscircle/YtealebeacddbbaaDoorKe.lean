/- The law KeysCircle, walked (made by mk17.py). -/
import Derived.Test.YtealebeacddbbaaDoorKd
namespace Go.Proofs.YtealebeacddbbaaDoor
open Go.RowKit Slices

theorem idx (i : Nat) : (1 + (i : Int) - 1).toNat = i := by omega
theorem low_some (z n : Int) (w : World) (h0 : 1 ≤ n) (h1 : n ≤ 4611686018427387904) :
    Calls Tryd.prog 7 #[.int .i64 z, .int .i64 n] w fun e w' => ∃ v : Nat, e = .returned (.int .i64 (v : Int)) ∧ (v : Int) < n ∧ w = w' :=
  (lawLow_any z n w h0 h1).mono fun _ _ h => by
    obtain ⟨v, hv⟩ : ∃ v : Nat, low z n = (v : Int) := ⟨(low z n).toNat, by have := low_lo z h0; omega⟩
    exact ⟨v, by rw [← hv]; exact h.1, by rw [← hv]; exact low_hi z h0, h.2⟩
/-- a change that is made -/
structure Goes (K : KeyV) (i : Nat) (op till clock : Int) : Prop where
  may : MayK K
  lt : i < K.vs.length
  lo : 5 ≤ op
  hi : op ≤ 8
  frm : From op (vg K.vs i).st
  time : op = 7 → clock < till ∧ 1 ≤ till ∧ till ≤ 1099511627776
theorem setTold (P : KeysOk) {K X : KeyV} {i : Nat} {op till clock : Int} {A : Option Addr} {c : Nat} {w : World} (hr : RdK w A c K) (h : Goes K i op till clock) (hX : putK K i (toS op) (dueS op till) = X) (ht : I64 till) (hc : I64 clock) :
    Calls Tryd.prog 9 #[keyVal K A c, .int .i64 op, .int .i64 (1 + (i : Int)), .int .i64 till, .int .i64 clock] w (KeyTold X w) := by
  have lt := h.lt
  have q := P.set_yes K op (1 + (i : Int)) till clock A c w hr (.yes ⟨h.may, h.lo, h.hi⟩ ⟨by omega, by omega⟩ (by rw [idx]; exact h.frm) h.time) ht hc
  rw [idx, hX] at q
  exact q
theorem setState (P : KeysOk) {K : KeyV} {i : Nat} {A : Option Addr} {c : Nat} {w : World} (hr : RdK w A c K) (m : MayK K) (hi : i < K.vs.length) (hs : (vg K.vs i).st ≠ 1) :
    Calls Tryd.prog 9 #[keyVal K A c, .int .i64 6, .int .i64 (1 + (i : Int)), .int .i64 0, .int .i64 0] w fun e w' => ∃ A' c' v, e = .returned (.tuple #[keyVal key0 A' c', v]) ∧ RdK w' A' c' key0 ∧ NumIs 11 v w' ∧ Below w.heap.size w w' := by
  refine P.set_state K 6 (1 + (i : Int)) 0 0 A c w hr (.state ⟨m, by omega, by omega⟩ ⟨by omega, by omega⟩ ?_) (by unfold I64; omega) (by unfold I64; omega)
  rw [idx]
  unfold From
  omega
/-- there and back: the keys on the way -/
structure Circle (K K1 K2 : KeyV) (i : Nat) (till clock : Int) : Prop where
  g1 : Goes K i 6 0 0
  e1 : putK K i (toS 6) (dueS 6 0) = K1
  g2 : Goes K1 i 5 0 0
  e2 : putK K1 i (toS 5) (dueS 5 0) = K
  g3 : Goes K i 7 till clock
  e3 : putK K i (toS 7) (dueS 7 till) = K2
  g4 : Goes K2 i 8 0 0
  e4 : putK K2 i (toS 8) (dueS 8 0) = K1
  st : (vg K2.vs i).st = 3
  due : (vg K2.vs i).due = till
  l2 : K2.vs.length = K.vs.length
theorem circle {K : KeyV} (m : MayK K) {i : Nat} (hi : i < K.vs.length) (hs : (vg K.vs i).st = 1) {till clock : Int} (ht : clock < till ∧ 1 ≤ till ∧ till ≤ 1099511627776) : ∃ K1 K2, Circle K K1 K2 i till clock := by
  have hd : (vg K.vs i).due = 0 := (m.each i hi).rest (by omega)
  have m1 : MayK (putK K i 2 0) := put_may m hi (by omega) (by omega) (by omega) (fun h => absurd h (by decide)) (fun _ => rfl)
  have m2 : MayK (putK K i 3 till) := put_may m hi (by omega) (by omega) (by omega) (fun _ => ht.2) (fun h => absurd rfl h)
  have hk := put_self hi
  rw [hs, hd] at hk
  refine ⟨putK K i 2 0, putK K i 3 till, ?_⟩
  exact { g1 := ⟨m, hi, by decide, by decide, by rw [hs]; unfold From; decide, fun h => absurd h (by decide)⟩
          e1 := rfl
          g2 := ⟨m1, by rw [put_len]; exact hi, by decide, by decide, by rw [put_at hi]; show From 5 2; unfold From; decide, fun h => absurd h (by decide)⟩
          e2 := by rw [put_put hi]; exact hk
          g3 := ⟨m, hi, by decide, by decide, by rw [hs]; unfold From; decide, fun _ => ht⟩
          e3 := rfl
          g4 := ⟨m2, by rw [put_len]; exact hi, by decide, by decide, by rw [put_at hi]; show From 8 3; unfold From; decide, fun h => absurd h (by decide)⟩
          e4 := by rw [put_put hi]; rfl
          st := by rw [put_at hi]
          due := by rw [put_at hi]
          l2 := put_len _ _ _ _ }

set_option maxRecDepth 100000 in
set_option maxHeartbeats 8000000 in
theorem keysCircle_any (P : KeysOk) (K : KeyV) (A : Option Addr) (c : Nat) (x1 x2 x3 : Int) (w : World) (h : RdK w A c K) (hw : WideK K) (hg : Han w) :
    Calls Tryd.prog 3 #[keyVal K A c, .int .i64 x1, .int .i64 x2, .int .i64 x3] w fun e w' => e = .returned (.bool true) ∧ Below w.heap.size w w' := by
  have HG := Lib.hid hg
  have HWD := Lib.hid hw
  have kq := keyAt_new h
  have B0 : Hid (Below w.heap.size w (w.alloc (.cells #[.int .i64 K.id, .int .i64 K.ten, .int .i64 K.set, .slice A K.vs.length c] 24))) := (Below.refl _ _).alloc (Nat.le_refl _) _
  have k := Lib.hid kq
  clear hg hw h kq
  unfold keyVal
  go_enter Tryd.func3, Tryd.ntmps3
  go_wp2_with fail
  generalize hW : World.alloc w _ = V0 at B0 k ⊢
  clear hW
  refine (greatK_any K A c V0 k.out.rd).mono ?_
  rintro e u1 ⟨b, rfl, hf, hb⟩
  have B1 := Lib.hid (below_next B0.out hb)
  have k1 := Lib.hid (k.out.next hb)
  clear hb B0 k
  cases b with
  | true =>
    clear hf
    go_wp2_with (go_at_call 6; refine (awake_any P u1 (Han.below HG.out B1.out)).mono ?_; rintro e w' ⟨rfl, hb⟩; have B2 := Lib.hid (below_next B1.out hb); clear hb)
    go_ret
    exact ⟨rfl, B2.out⟩
  | false =>
    have HF := Lib.hid (hf rfl)
    clear hf
    have xk0 := k1.out.c0
    have xk1 := k1.out.c1
    have xk2 := k1.out.c2
    have xk3 := k1.out.c3
    go_wp2_with fail
    refine (P.may K A c u1 k1.out.rd HF.out HWD.out).mono ?_
    by_cases m : MayK K
    case neg =>
      rw [mayKC_no m]
      rintro e u2 ⟨rfl, hb⟩
      have B2 := Lib.hid (below_next B1.out hb)
      clear hb m
      go_wp2_with (go_at_call 6; refine (awake_any P u2 (Han.below HG.out B2.out)).mono ?_; rintro e w' ⟨rfl, hb⟩; have B3 := Lib.hid (below_next B2.out hb); clear hb)
      go_ret
      exact ⟨rfl, B3.out⟩
    rw [mayKC_yes m]
    rintro e u2 ⟨rfl, hb⟩
    have B2 := Lib.hid (below_next B1.out hb)
    have k2 := Lib.hid (k1.out.next hb)
    have n1 := m.some
    have n5 := m.few
    have MM := Lib.hid m
    clear hb m xk0 xk1 xk2 xk3 k1 B1
    have xk3 := k2.out.c3
    have tz : ((K.vs.length : Int) == 0) = false := beq_eq_false_iff_ne.2 (by omega)
    go_wp2_with fail
    clear tz
    refine (low_some x1 (K.vs.length : Int) u2 (by omega) (by omega)).mono ?_
    rintro e w' ⟨i, rfl, hi, rfl⟩
    go_wp2_with fail
    refine (low_some x2 1000 u2 (by omega) (by omega)).mono ?_
    rintro e w' ⟨t, rfl, ht, rfl⟩
    go_wp2_with fail
    refine (low_some x3 (2 + (t : Int)) u2 (by omega) (by omega)).mono ?_
    rintro e w' ⟨clk, rfl, hc, rfl⟩
    clear xk3
    obtain ⟨till, htl⟩ : ∃ till : Int, till = 2 + (t : Int) := ⟨_, rfl⟩
    rw [← htl]
    have tl1 : (clk : Int) < till := by omega
    have tl2 : 1 ≤ till := by omega
    have tl3 : till ≤ 1099511627776 := by omega
    clear htl ht hc
    obtain ⟨v, hv⟩ : ∃ v, v = vg K.vs i := ⟨_, rfl⟩
    have Hv := Lib.hid hv
    clear hv
    have xk0 := k2.out.c0
    have xk1 := k2.out.c1
    have xk2 := k2.out.c2
    have xk3 := k2.out.c3
    go_wp2_with fail
    refine (P.find_yes K (1 + (i : Int)) A c u2 k2.out.rd MM.out (by omega) (by omega)).mono ?_
    rw [idx i, ← Hv.out]
    rintro e u11 ⟨S11, m11, c11, rfl, hb⟩
    clear xk0 xk1 xk2 xk3
    have k11a := Lib.hid (k2.out.next hb)
    have B11a := Lib.hid (below_next B2.out hb)
    clear k2 B2
    clear hb
    have bx : Below u11.heap.size u11 (u11.alloc (.cells #[.int .i64 v.n, .int .i64 v.st, .int .i64 v.due, .slice S11 m11 c11] 30)) := (Below.refl _ _).alloc (Nat.le_refl _) _
    have k11b := Lib.hid (k11a.out.next bx)
    have B11b := Lib.hid (below_next B11a.out bx)
    clear k11a B11a
    clear bx
    have vs := Lib.hid (show (u11.alloc (.cells #[.int .i64 v.n, .int .i64 v.st, .int .i64 v.due, .slice S11 m11 c11] 30)).cell? ⟨u11.heap.size, 1, none⟩ = some (.int .i64 v.st) by simp)
    have vd := Lib.hid (show (u11.alloc (.cells #[.int .i64 v.n, .int .i64 v.st, .int .i64 v.due, .slice S11 m11 c11] 30)).cell? ⟨u11.heap.size, 2, none⟩ = some (.int .i64 v.due) by simp)
    by_cases hs : v.st = 1
    case pos =>
      have Hs := Lib.hid hs
      clear hs
      obtain ⟨K1, K2, hC⟩ := circle (K := K) (i := i) (till := till) (clock := (clk : Int)) MM.out (by omega) (by rw [← Hv.out]; exact Hs.out) ⟨tl1, tl2, tl3⟩
      have HC := Lib.hid hC
      obtain ⟨v2, hv2⟩ : ∃ v2, v2 = vg K2.vs i := ⟨_, rfl⟩
      have Hv2 := Lib.hid hv2
      have HS2 : Hid (v2.st = 3) := by show v2.st = 3; rw [hv2]; exact hC.st
      have HD2 : Hid (v2.due = till) := by show v2.due = till; rw [hv2]; exact hC.due
      have HL2 := Lib.hid hC.l2
      have MM2 := Lib.hid hC.g4.may
      have FE1 := Lib.hid (may_few hC.g2.may)
      clear hC hv2
      have xk0 := k11b.out.c0
      have xk1 := k11b.out.c1
      have xk2 := k11b.out.c2
      have xk3 := k11b.out.c3
      go_wp2_with fail
      generalize hW : World.alloc u11 _ = V12 at k11b vs vd B11b xk0 xk1 xk2 xk3 ⊢
      clear hW
      refine (setTold P k11b.out.rd HC.out.g1 HC.out.e1 (by unfold I64; omega) (by unfold I64; omega)).mono ?_
      rintro e u13 ⟨A13, c13, rfl, hr, hb⟩
      clear xk0 xk1 xk2 xk3
      have k13a := Lib.hid (k11b.out.next hb)
      have vs13a := Lib.hid (cell_below vs.out hb)
      have vd13a := Lib.hid (cell_below vd.out hb)
      have B13a := Lib.hid (below_next B11b.out hb)
      clear k11b vs vd B11b
      clear hb
      unfold keyVal
      have bx : Below u13.heap.size u13 (u13.alloc (.cells #[.int .i64 K1.id, .int .i64 K1.ten, .int .i64 K1.set, .slice A13 K1.vs.length c13] 24)) := (Below.refl _ _).alloc (Nat.le_refl _) _
      have k13b := Lib.hid (k13a.out.next bx)
      have vs13b := Lib.hid (cell_below vs13a.out bx)
      have vd13b := Lib.hid (cell_below vd13a.out bx)
      have B13b := Lib.hid (below_next B13a.out bx)
      clear k13a vs13a vd13a B13a
      clear bx
      have ka := Lib.hid (keyAt_new hr)
      clear hr
      have xs := vs13b.out
      rw [Hs.out] at xs
      have xka0 := ka.out.c0
      have xka1 := ka.out.c1
      have xka2 := ka.out.c2
      have xka3 := ka.out.c3
      go_wp2_with fail
      generalize hW : World.alloc u13 _ = V14 at k13b ka vs13b vd13b B13b xka0 xka1 xka2 xka3 xs ⊢
      clear hW
      clear xs
      refine (setTold P ka.out.rd HC.out.g2 HC.out.e2 (by unfold I64; omega) (by unfold I64; omega)).mono ?_
      rintro e u15 ⟨A15, c15, rfl, hr, hb⟩
      clear xka0 xka1 xka2 xka3
      have k15a := Lib.hid (k13b.out.next hb)
      have ka15a := Lib.hid (ka.out.next hb)
      have vs15a := Lib.hid (cell_below vs13b.out hb)
      have vd15a := Lib.hid (cell_below vd13b.out hb)
      have B15a := Lib.hid (below_next B13b.out hb)
      clear k13b ka vs13b vd13b B13b
      clear hb
      unfold keyVal
      have bx : Below u15.heap.size u15 (u15.alloc (.cells #[.int .i64 K.id, .int .i64 K.ten, .int .i64 K.set, .slice A15 K.vs.length c15] 24)) := (Below.refl _ _).alloc (Nat.le_refl _) _
      have k15b := Lib.hid (k15a.out.next bx)
      have ka15b := Lib.hid (ka15a.out.next bx)
      have vs15b := Lib.hid (cell_below vs15a.out bx)
      have vd15b := Lib.hid (cell_below vd15a.out bx)
      have B15b := Lib.hid (below_next B15a.out bx)
      clear k15a ka15a vs15a vd15a B15a
      clear bx
      have kb := Lib.hid (keyAt_new hr)
      clear hr
      have xk0 := k15b.out.c0
      have xk1 := k15b.out.c1
      have xk2 := k15b.out.c2
      have xk3 := k15b.out.c3
      go_wp2_with fail
      generalize hW : World.alloc u15 _ = V16 at k15b ka15b kb vs15b vd15b B15b xk0 xk1 xk2 xk3 ⊢
      clear hW
      refine (setTold P k15b.out.rd HC.out.g3 HC.out.e3 (by unfold I64; omega) (by unfold I64; omega)).mono ?_
      rintro e u17 ⟨A17, c17, rfl, hr, hb⟩
      clear xk0 xk1 xk2 xk3
      have k17a := Lib.hid (k15b.out.next hb)
      have ka17a := Lib.hid (ka15b.out.next hb)
      have kb17a := Lib.hid (kb.out.next hb)
      have vs17a := Lib.hid (cell_below vs15b.out hb)
      have vd17a := Lib.hid (cell_below vd15b.out hb)
      have B17a := Lib.hid (below_next B15b.out hb)
      clear k15b ka15b kb vs15b vd15b B15b
      clear hb
      unfold keyVal
      have bx : Below u17.heap.size u17 (u17.alloc (.cells #[.int .i64 K2.id, .int .i64 K2.ten, .int .i64 K2.set, .slice A17 K2.vs.length c17] 24)) := (Below.refl _ _).alloc (Nat.le_refl _) _
      have k17b := Lib.hid (k17a.out.next bx)
      have ka17b := Lib.hid (ka17a.out.next bx)
      have kb17b := Lib.hid (kb17a.out.next bx)
      have vs17b := Lib.hid (cell_below vs17a.out bx)
      have vd17b := Lib.hid (cell_below vd17a.out bx)
      have B17b := Lib.hid (below_next B17a.out bx)
      clear k17a ka17a kb17a vs17a vd17a B17a
      clear bx
      have kc := Lib.hid (keyAt_new hr)
      clear hr
      have xkc0 := kc.out.c0
      have xkc1 := kc.out.c1
      have xkc2 := kc.out.c2
      have xkc3 := kc.out.c3
      go_wp2_with fail
      generalize hW : World.alloc u17 _ = V18 at k17b ka17b kb17b kc vs17b vd17b B17b xkc0 xkc1 xkc2 xkc3 ⊢
      clear hW
      refine (setTold P kc.out.rd HC.out.g4 HC.out.e4 (by unfold I64; omega) (by unfold I64; omega)).mono ?_
      rintro e u19 ⟨A19, c19, rfl, hr, hb⟩
      clear xkc0 xkc1 xkc2 xkc3
      have k19a := Lib.hid (k17b.out.next hb)
      have ka19a := Lib.hid (ka17b.out.next hb)
      have kb19a := Lib.hid (kb17b.out.next hb)
      have kc19a := Lib.hid (kc.out.next hb)
      have vs19a := Lib.hid (cell_below vs17b.out hb)
      have vd19a := Lib.hid (cell_below vd17b.out hb)
      have B19a := Lib.hid (below_next B17b.out hb)
      clear k17b ka17b kb17b kc vs17b vd17b B17b
      clear hb
      unfold keyVal
      have bx : Below u19.heap.size u19 (u19.alloc (.cells #[.int .i64 K1.id, .int .i64 K1.ten, .int .i64 K1.set, .slice A19 K1.vs.length c19] 24)) := (Below.refl _ _).alloc (Nat.le_refl _) _
      have k19b := Lib.hid (k19a.out.next bx)
      have ka19b := Lib.hid (ka19a.out.next bx)
      have kb19b := Lib.hid (kb19a.out.next bx)
      have kc19b := Lib.hid (kc19a.out.next bx)
      have vs19b := Lib.hid (cell_below vs19a.out bx)
      have vd19b := Lib.hid (cell_below vd19a.out bx)
      have B19b := Lib.hid (below_next B19a.out bx)
      clear k19a ka19a kb19a kc19a vs19a vd19a B19a
      clear bx
      have kd := Lib.hid (keyAt_new hr)
      clear hr
      have xkd0 := kd.out.c0
      have xkd1 := kd.out.c1
      have xkd2 := kd.out.c2
      have xkd3 := kd.out.c3
      go_wp2_with fail
      generalize hW : World.alloc u19 _ = V20 at k19b ka19b kb19b kc19b kd vs19b vd19b B19b xkd0 xkd1 xkd2 xkd3 ⊢
      clear hW
      refine (setTold P kd.out.rd HC.out.g2 HC.out.e2 (by unfold I64; omega) (by unfold I64; omega)).mono ?_
      rintro e u21 ⟨A21, c21, rfl, hr, hb⟩
      clear xkd0 xkd1 xkd2 xkd3
      have k21a := Lib.hid (k19b.out.next hb)
      have ka21a := Lib.hid (ka19b.out.next hb)
      have kb21a := Lib.hid (kb19b.out.next hb)
      have kc21a := Lib.hid (kc19b.out.next hb)
      have kd21a := Lib.hid (kd.out.next hb)
      have vs21a := Lib.hid (cell_below vs19b.out hb)
      have vd21a := Lib.hid (cell_below vd19b.out hb)
      have B21a := Lib.hid (below_next B19b.out hb)
      clear k19b ka19b kb19b kc19b kd vs19b vd19b B19b
      clear hb
      unfold keyVal
      have bx : Below u21.heap.size u21 (u21.alloc (.cells #[.int .i64 K.id, .int .i64 K.ten, .int .i64 K.set, .slice A21 K.vs.length c21] 24)) := (Below.refl _ _).alloc (Nat.le_refl _) _
      have k21b := Lib.hid (k21a.out.next bx)
      have ka21b := Lib.hid (ka21a.out.next bx)
      have kb21b := Lib.hid (kb21a.out.next bx)
      have kc21b := Lib.hid (kc21a.out.next bx)
      have kd21b := Lib.hid (kd21a.out.next bx)
      have vs21b := Lib.hid (cell_below vs21a.out bx)
      have vd21b := Lib.hid (cell_below vd21a.out bx)
      have B21b := Lib.hid (below_next B21a.out bx)
      clear k21a ka21a kb21a kc21a kd21a vs21a vd21a B21a
      clear bx
      have ki := Lib.hid (keyAt_new hr)
      clear hr
      have xkc0 := kc21b.out.c0
      have xkc1 := kc21b.out.c1
      have xkc2 := kc21b.out.c2
      have xkc3 := kc21b.out.c3
      go_wp2_with fail
      generalize hW : World.alloc u21 _ = V22 at k21b ka21b kb21b kc21b kd21b ki vs21b vd21b B21b xkc0 xkc1 xkc2 xkc3 ⊢
      clear hW
      refine (P.find_yes K2 (1 + (i : Int)) A17 c17 V22 kc21b.out.rd MM2.out (by omega) (by have := HL2.out; omega)).mono ?_
      rw [idx i, ← Hv2.out]
      rintro e u23 ⟨S23, m23, c23, rfl, hb⟩
      rw [HS2.out, HD2.out]
      clear xkc0 xkc1 xkc2 xkc3
      have k23a := Lib.hid (k21b.out.next hb)
      have ka23a := Lib.hid (ka21b.out.next hb)
      have kb23a := Lib.hid (kb21b.out.next hb)
      have kc23a := Lib.hid (kc21b.out.next hb)
      have kd23a := Lib.hid (kd21b.out.next hb)
      have ki23a := Lib.hid (ki.out.next hb)
      have vs23a := Lib.hid (cell_below vs21b.out hb)
      have vd23a := Lib.hid (cell_below vd21b.out hb)
      have B23a := Lib.hid (below_next B21b.out hb)
      clear k21b ka21b kb21b kc21b kd21b ki vs21b vd21b B21b
      clear hb
      have bx : Below u23.heap.size u23 (u23.alloc (.cells #[.int .i64 v2.n, .int .i64 3, .int .i64 till, .slice S23 m23 c23] 30)) := (Below.refl _ _).alloc (Nat.le_refl _) _
      have k23b := Lib.hid (k23a.out.next bx)
      have ka23b := Lib.hid (ka23a.out.next bx)
      have kb23b := Lib.hid (kb23a.out.next bx)
      have kc23b := Lib.hid (kc23a.out.next bx)
      have kd23b := Lib.hid (kd23a.out.next bx)
      have ki23b := Lib.hid (ki23a.out.next bx)
      have vs23b := Lib.hid (cell_below vs23a.out bx)
      have vd23b := Lib.hid (cell_below vd23a.out bx)
      have B23b := Lib.hid (below_next B23a.out bx)
      clear k23a ka23a kb23a kc23a kd23a ki23a vs23a vd23a B23a
      clear bx
      have v2s := Lib.hid (show (u23.alloc (.cells #[.int .i64 v2.n, .int .i64 3, .int .i64 till, .slice S23 m23 c23] 30)).cell? ⟨u23.heap.size, 1, none⟩ = some (.int .i64 3) by simp)
      have v2d := Lib.hid (show (u23.alloc (.cells #[.int .i64 v2.n, .int .i64 3, .int .i64 till, .slice S23 m23 c23] 30)).cell? ⟨u23.heap.size, 2, none⟩ = some (.int .i64 till) by simp)
      have y1 := v2s.out
      have y2 := v2d.out
      have xkb0 := kb23b.out.c0
      have xkb1 := kb23b.out.c1
      have xkb2 := kb23b.out.c2
      have xkb3 := kb23b.out.c3
      have xk0 := k23b.out.c0
      have xk1 := k23b.out.c1
      have xk2 := k23b.out.c2
      have xk3 := k23b.out.c3
      go_wp2_with fail
      generalize hW : World.alloc u23 _ = V24 at k23b ka23b kb23b kc23b kd23b ki23b vs23b vd23b v2s v2d B23b y1 y2 xkb0 xkb1 xkb2 xkb3 xk0 xk1 xk2 xk3 ⊢
      clear hW
      refine (sameK_true K A15 A c15 c V24 kb23b.out.rd k23b.out.rd (may_few MM.out)).mono ?_
      rintro e w7 ⟨rfl, hb⟩
      clear y1 y2
      clear xkb0 xkb1 xkb2 xkb3 xk0 xk1 xk2 xk3
      have km := Lib.hid (k23b.out.next hb)
      have kam := Lib.hid (ka23b.out.next hb)
      have kbm := Lib.hid (kb23b.out.next hb)
      have kcm := Lib.hid (kc23b.out.next hb)
      have kdm := Lib.hid (kd23b.out.next hb)
      have kim := Lib.hid (ki23b.out.next hb)
      have vsm := Lib.hid (cell_below vs23b.out hb)
      have vdm := Lib.hid (cell_below vd23b.out hb)
      have v2sm := Lib.hid (cell_below v2s.out hb)
      have v2dm := Lib.hid (cell_below v2d.out hb)
      have Bm := Lib.hid (below_next B23b.out hb)
      clear k23b ka23b kb23b kc23b kd23b ki23b vs23b vd23b v2s v2d B23b
      clear hb
      have xki0 := kim.out.c0
      have xki1 := kim.out.c1
      have xki2 := kim.out.c2
      have xki3 := kim.out.c3
      have xk0 := km.out.c0
      have xk1 := km.out.c1
      have xk2 := km.out.c2
      have xk3 := km.out.c3
      go_wp2_with fail
      refine (sameK_true K A21 A c21 c w7 kim.out.rd km.out.rd (may_few MM.out)).mono ?_
      rintro e w8 ⟨rfl, hb⟩
      clear xki0 xki1 xki2 xki3 xk0 xk1 xk2 xk3
      have kn := Lib.hid (km.out.next hb)
      have kan := Lib.hid (kam.out.next hb)
      have kbn := Lib.hid (kbm.out.next hb)
      have kcn := Lib.hid (kcm.out.next hb)
      have kdn := Lib.hid (kdm.out.next hb)
      have kin := Lib.hid (kim.out.next hb)
      have vsn := Lib.hid (cell_below vsm.out hb)
      have vdn := Lib.hid (cell_below vdm.out hb)
      have v2sn := Lib.hid (cell_below v2sm.out hb)
      have v2dn := Lib.hid (cell_below v2dm.out hb)
      have Bn := Lib.hid (below_next Bm.out hb)
      clear km kam kbm kcm kdm kim vsm vdm v2sm v2dm Bm
      clear hb
      have xka0 := kan.out.c0
      have xka1 := kan.out.c1
      have xka2 := kan.out.c2
      have xka3 := kan.out.c3
      have xkd0 := kdn.out.c0
      have xkd1 := kdn.out.c1
      have xkd2 := kdn.out.c2
      have xkd3 := kdn.out.c3
      go_wp2_with fail
      refine (sameK_true K1 A13 A19 c13 c19 w8 kan.out.rd kdn.out.rd FE1.out).mono ?_
      rintro e w9 ⟨rfl, hb⟩
      clear xka0 xka1 xka2 xka3 xkd0 xkd1 xkd2 xkd3
      have BE := Lib.hid (below_next Bn.out hb)
      clear hb
      go_wp2_with (go_at_call 6; refine (awake_any P w9 (Han.below HG.out BE.out)).mono ?_; rintro e w' ⟨rfl, hb⟩; have BF := Lib.hid (below_next BE.out hb); clear hb)
      go_ret
      exact ⟨rfl, BF.out⟩
    case neg =>
      have Hs := Lib.hid hs
      clear hs
      have xk0 := k11b.out.c0
      have xk1 := k11b.out.c1
      have xk2 := k11b.out.c2
      have xk3 := k11b.out.c3
      go_wp2_with fail
      generalize hW : World.alloc u11 _ = V25 at k11b vs vd B11b xk0 xk1 xk2 xk3 ⊢
      clear hW
      refine (setState P k11b.out.rd MM.out (i := i) (by omega) (by rw [← Hv.out]; exact Hs.out)).mono ?_
      rintro e u9 ⟨A9, c9, x9, rfl, hz, hx, hb⟩
      have HX := Lib.hid hx
      clear xk0 xk1 xk2 xk3
      have kp := Lib.hid (k11b.out.next hb)
      have vsp := Lib.hid (cell_below vs.out hb)
      have vdp := Lib.hid (cell_below vd.out hb)
      have Bp := Lib.hid (below_next B11b.out hb)
      clear k11b vs vd B11b
      clear hb hx
      unfold keyVal
      have bx : Below u9.heap.size u9 (u9.alloc (.cells #[.int .i64 key0.id, .int .i64 key0.ten, .int .i64 key0.set, .slice A9 key0.vs.length c9] 24)) := (Below.refl _ _).alloc (Nat.le_refl _) _
      have kq := Lib.hid (kp.out.next bx)
      have vsq := Lib.hid (cell_below vsp.out bx)
      have vdq := Lib.hid (cell_below vdp.out bx)
      have HXq := Lib.hid (HX.out.next bx)
      have Bq := Lib.hid (below_next Bp.out bx)
      clear kp vsp vdp HX Bp
      clear bx
      have kz := Lib.hid (keyAt_new hz)
      clear hz
      have xs := vsq.out
      have tn : (v.st != 1) = true := by simpa using Hs.out
      go_wp2_with fail
      generalize hW : World.alloc u9 _ = V26 at kq kz vsq vdq HXq Bq xs ⊢
      clear hW
      refine (HXq.out V26 (Below.refl _ _) (Han.below HG.out Bq.out)).mono ?_
      rintro e w7 ⟨rfl, hb⟩
      clear xs tn
      have km := Lib.hid (kq.out.next hb)
      have kzm := Lib.hid (kz.out.next hb)
      have vsm := Lib.hid (cell_below vsq.out hb)
      have vdm := Lib.hid (cell_below vdq.out hb)
      have HXm := Lib.hid (HXq.out.next hb)
      have Bm := Lib.hid (below_next Bq.out hb)
      clear kq kz vsq vdq HXq Bq
      clear hb
      have xkz0 := kzm.out.c0
      have xkz1 := kzm.out.c1
      have xkz2 := kzm.out.c2
      have xkz3 := kzm.out.c3
      go_wp2_with fail
      refine (sameK_true key0 A9 none c9 0 w7 kzm.out.rd (rdK_zero w7) ⟨by show 0 ≤ 8; omega, fun k hk => by cases hk⟩).mono ?_
      rintro e w8 ⟨rfl, hb⟩
      clear xkz0 xkz1 xkz2 xkz3
      have BE := Lib.hid (below_next Bm.out hb)
      clear hb
      go_wp2_with (go_at_call 6; refine (awake_any P w8 (Han.below HG.out BE.out)).mono ?_; rintro e w' ⟨rfl, hb⟩; have BF := Lib.hid (below_next BE.out hb); clear hb)
      go_ret
      exact ⟨rfl, BF.out⟩
end Go.Proofs.YtealebeacddbbaaDoor
