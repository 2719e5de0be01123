/- The law TenantsTell, walked. -/
import Derived.Test.YtjpmglnhnfnmnaaDoorTg
namespace Go.Proofs.YtjpmglnhnfnmnaaDoor
open Go.RowKit Slices

theorem HasT.under {w w' : World} {B : Nat} {A : Option Addr} {l : List Ten} (h : HasT w B A l) (hb : Below B w w') : HasT w' B A l := h.keep fun _ hp => hb.cell hp
theorem add_len {l : List Ten} {p : Int} {nm : ByteArray} {k : Int} : (addL l p nm k).length ≤ l.length + 1 := by
  unfold addL
  split
  · rw [more_len]; omega
  · simp
theorem same_any {A A' : Option Addr} {c c' n n' : Nat} {l l' : List Int} {w : World} (he : l = l') (hn : n = l.length) (hn' : n' = l'.length) (hl : l.length ≤ 4000) (h : Has .i64 w w.heap.size A l) (h' : Has .i64 w w.heap.size A' l') :
    Calls Tryd.prog 13 #[.slice A n c, .slice A' n' c'] w fun e w' => e = .returned (.bool true) ∧ Below w.heap.size w w' :=
  same_eq A A' c c' n n' l l' w he hn (by rw [he]; exact hn') hl h h'
theorem sameT_any {A A' : Option Addr} {c c' n n' B : Nat} {l : List Ten} {w : World} (hn : n = l.length) (hn' : n' = l.length) (hl : l.length ≤ 1000) (h : HasT w B A l) (h' : HasT w B A' l) :
    Calls Tryd.prog 11 #[.slice A n c, .slice A' n' c'] w fun e w' => e = .returned (.bool true) ∧ Below w.heap.size w w' :=
  (sameT_true A A' c c' B n n' l w hn hn' hl h h').mono fun e w' ⟨h1, n, h2⟩ => ⟨h1, by rw [h2]; exact below_drewN (Below.refl _ _) n⟩

set_option maxRecDepth 100000 in
set_option maxHeartbeats 4000000 in
theorem tenantsTell_any (P : TenantsOk) (A : Option Addr) (n c : Nat) (l : List Ten) (par : Int) (nm : ByteArray) (a b : Int) (w : World) (hn : n = l.length) (hs : n ≤ 4611686018427387904) (h : HasT w w.heap.size A l) (hno : A = none → n = 0 ∧ c = 0) (hcap : n ≤ c) (fit : ∀ k, k < n → I64 (tg l k).id ∧ I64 (tg l k).par)
    (ip : I64 par) (sn : nm.size ≤ 4611686018427387904) (ia : I64 a) (ib : I64 b) (hg : Han w) :
    Calls Tryd.prog 3 #[.slice A n c, .int .i64 par, .string nm, .int .i64 a, .int .i64 b] w fun e w' => e = .returned (.bool true) ∧ Below w.heap.size w w' := by
  obtain ⟨i0, hi0, hz0, hz1, hz2⟩ := info_parts Tryd.infoT
  have HG := Lib.hid hg
  have HN := Lib.hid hn
  have H := Lib.hid h
  have HNO := Lib.hid hno
  have HF := Lib.hid fit
  have IP := Lib.hid ip
  have IA := Lib.hid ia
  have IB := Lib.hid ib
  clear hg hn h hno fit ip ia ib
  go_enter Tryd.func3, Tryd.ntmps3
  go_wp2_with fail
  refine (great_any A n c l w HN.out hs H.out).mono ?_
  rintro e w0 ⟨b0, rfl, hgr, rfl⟩
  cases b0 with
  | true =>
    go_wp2_with (go_at_call 7; refine (awake_any P w HG.out).mono ?_; rintro e w1 ⟨rfl, hb⟩; have B1 := Lib.hid hb; clear hb)
    go_ret
    exact ⟨rfl, B1.out⟩
  | false =>
    by_cases s4 : 400 < nm.size
    · clear hgr
      go_wp2_with (go_at_call 7; refine (awake_any P w HG.out).mono ?_; rintro e w1 ⟨rfl, hb⟩; have B1 := Lib.hid hb; clear hb)
      go_ret
      exact ⟨rfl, B1.out⟩
    · have few := (hgr rfl).1
      have R0 : Hid (RdT w A n c l) := ⟨HN.out, H.out, HNO.out, hcap, few, fun k hk => ⟨(HF.out k hk).1, (HF.out k hk).2, by have := (hgr rfl).2 k hk; omega⟩⟩
      have HL : Hid ((cellsT l).length = n * 3) := by rw [HN.out]; exact Lib.hid (cellsT_len l)
      clear hgr H HNO HF
      go_wp2_with (at_builtin; refine append_any w rfl (.const (.slice none 0 0)) (.tmp 28) 22 rfl w.heap.size 46 i0 (.agg #[.int .i64 0, .int .i64 0, .string ByteArray.empty]) 3 32 Tryd.underlying22 hi0 hz0 hz1 hz2 rfl (by decide) _ 0 [] rfl (World.ownsRow_nil _ _ _ _) A n c (cellsT l) rfl HL.out R0.out.none R0.out.has.cells (cellsT_plain l) (by unfold maxLen; omega) (by omega) (Nat.le_refl _) ?_; intro v1 w1 hown hgr; obtain ⟨A1, c1, rfl⟩ := ownT_slice hown; have O1 := Lib.hid hown; have B1 : Hid (Below w.heap.size w w1) := (Below.refl _ w).grown hgr (Nat.le_refl _) (fun q hq => by cases hq); clear hown hgr)
      have W1 : Hid (HasT w1 w1.heap.size A1 l) := by
        have q := O1.out
        rw [List.nil_append] at q
        exact ownT_read q
      have T1 := Lib.hid (R0.out.next B1.out)
      clear O1 R0
      refine (P.add A n c l par nm w1 T1.out IP.out (by omega)).mono ?_
      rintro e w2 ⟨k, A2, n2, c2, v2, hk, rfl, ho, he, hb⟩
      have HK := Lib.hid hk
      have X2 := Lib.hid ho
      have E2 := Lib.hid he
      have N2 := Lib.hid hb
      clear hk ho he hb
      go_wp2_with fail
      refine (refAdd_any A n c l par nm w2 (T1.out.next N2.out) (by omega)).mono ?_
      rintro e w3 ⟨k', A3, n3, c3, hk', rfl, ho, hb⟩
      obtain rfl := add_one hk' HK.out
      have X3 := Lib.hid (X2.out.next hb)
      have Y3 := Lib.hid ho
      have E3 := Lib.hid (E2.out.next hb)
      have N3 := Lib.hid (below_next N2.out hb)
      have S1 : Hid (w1.heap.size ≤ w3.heap.size) := N3.out.size
      have LX : Hid (Lies A2 w1.heap.size w3.heap.size) := fun a e => ⟨(own_lies X2.out a e).1, Nat.lt_of_lt_of_le (own_lies X2.out a e).2 hb.size⟩
      clear hk' ho hb X2 E2 N2
      go_wp2_with fail
      refine (P.path A n c l a w3 (T1.out.next N3.out) IA.out).mono ?_
      rintro e w4 ⟨A4, c4, rfl, ho, hb⟩
      obtain ⟨PT, hPT⟩ : ∃ PT, PT = pathT l a := ⟨_, rfl⟩
      have pf : PT.length ≤ 8 := by rw [hPT]; exact path_few l a
      rw [← hPT] at ho ⊢
      have HPT := Lib.hid hPT
      have P4 : Hid (Mine .i64 3 w3.heap.size A4 c4 PT w4) := Mine.of ho hb
      have X4 := Lib.hid (X3.out.next hb)
      have Y4 := Lib.hid (Y3.out.next hb)
      have E4 := Lib.hid (E3.out.next hb)
      have N4 := Lib.hid (below_next N3.out hb)
      have S4 := Lib.hid hb.size
      clear hPT ho hb X3 Y3 E3 N3
      have lx : (addL l par nm k').length ≤ 13 := by have := add_len (l := l) (p := par) (nm := nm) (k := k'); have := HN.out; omega
      go_wp2_with fail
      refine (sameT_any (B := w4.heap.size) (ownT_len X4.out).symm (ownT_len Y4.out).symm (by omega) (ownT_read X4.out) (ownT_read Y4.out)).mono ?_
      rintro e w5 ⟨rfl, hb⟩
      have P5 := Lib.hid (P4.out.next hb)
      have X5 := Lib.hid (X4.out.next hb)
      have E5 := Lib.hid (E4.out.next hb)
      have N5 := Lib.hid (below_next N4.out hb)
      have S5 : Hid (w3.heap.size ≤ w5.heap.size) := Nat.le_trans S4.out hb.size
      clear hb P4 X4 Y4 E4 N4 S4
      generalize addN l k' = NN
      go_wp2_with fail
      refine (num_any k' v2 w5 (HG.out.below (below_next B1.out N5.out)) E5.out).mono ?_
      rintro e w6 ⟨rfl, hb⟩
      have P6 := Lib.hid (P5.out.next hb)
      have X6 := Lib.hid (X5.out.next hb)
      have N6 := Lib.hid (below_next N5.out hb)
      have S6 : Hid (w3.heap.size ≤ w6.heap.size) := Nat.le_trans S5.out hb.size
      clear hb P5 X5 E5 N5 S5
      go_wp2_with fail
      refine (refPath_any A n c l a w6 (T1.out.next N6.out) IA.out).mono ?_
      rintro e w7 ⟨A7, c7, rfl, ho, hb⟩
      rw [← HPT.out] at ho ⊢
      have Q7 := Lib.hid (own_read ho)
      have P7 := Lib.hid (P6.out.next hb)
      have X7 := Lib.hid (X6.out.next hb)
      have N7 := Lib.hid (below_next N6.out hb)
      have S7 : Hid (w3.heap.size ≤ w7.heap.size) := Nat.le_trans S6.out hb.size
      clear ho hb P6 X6 N6 S6
      go_wp2_with fail
      refine (same_any (l := PT) (l' := PT) rfl rfl rfl (by omega) P7.out.read Q7.out).mono ?_
      rintro e w8 ⟨rfl, hb⟩
      have P8 := Lib.hid (P7.out.next hb)
      have X8 := Lib.hid (X7.out.next hb)
      have N8 := Lib.hid (below_next N7.out hb)
      have S8 : Hid (w3.heap.size ≤ w8.heap.size) := Nat.le_trans S7.out hb.size
      clear hb P7 X7 N7 S7 Q7
      go_wp2_with fail
      refine (P.above A n c l a b w8 (T1.out.next N8.out) IA.out IB.out).mono ?_
      rintro e w9 ⟨rfl, hb⟩
      have P9 := Lib.hid (P8.out.next hb)
      have X9 := Lib.hid (X8.out.next hb)
      have N9 := Lib.hid (below_next N8.out hb)
      have S9 : Hid (w3.heap.size ≤ w9.heap.size) := Nat.le_trans S8.out hb.size
      clear hb P8 X8 N8 S8
      go_wp2_with fail
      refine (refAbove_any A n c l a b w9 (T1.out.next N9.out) IB.out).mono ?_
      rintro e w10 ⟨rfl, hb⟩
      have P10 := Lib.hid (P9.out.next hb)
      have X10 := Lib.hid (X9.out.next hb)
      have N10 := Lib.hid (below_next N9.out hb)
      have S10 : Hid (w3.heap.size ≤ w10.heap.size) := Nat.le_trans S9.out hb.size
      clear hb P9 X9 N9 S9
      generalize decide (a ∈ pathT l b) = D
      go_wp2_with fail
      refine (P.may A n c l w10 (T1.out.next N10.out)).mono ?_
      rintro e w11 ⟨rfl, hb⟩
      have P11 := Lib.hid (P10.out.next hb)
      have X11 := Lib.hid (X10.out.next hb)
      have N11 := Lib.hid (below_next N10.out hb)
      have S11 : Hid (w3.heap.size ≤ w11.heap.size) := Nat.le_trans S10.out hb.size
      clear hb P10 X10 N10 S10
      go_wp2_with fail
      refine (refMay_any A n c l w11 (T1.out.next N11.out)).mono ?_
      rintro e w12 ⟨rfl, hb⟩
      have P12 := Lib.hid (P11.out.next hb)
      have X12 := Lib.hid (X11.out.next hb)
      have N12 := Lib.hid (below_next N11.out hb)
      have S12 : Hid (w3.heap.size ≤ w12.heap.size) := Nat.le_trans S11.out hb.size
      clear hb P11 X11 N11 S11
      generalize mayC l = M
      go_wp2_with fail
      refine (overT_any A2 n2 c2 w1.heap.size _ w12 X12.out N12.out.size (by have := ownT_len X12.out; omega)).mono ?_
      rintro e w13 ⟨rfl, hg⟩
      have P13 := Lib.hid (P12.out.kept hg LX.out (Nat.le_refl _))
      have N13 : Hid (Below w1.heap.size w1 w13) := N12.out.trans (below_of_grown hg LX.out N12.out.size)
      clear hg P12 X12 N12 S12
      go_wp2_with fail
      refine (over_any w3.heap.size c4 A4 PT w13 P13.out (by omega)).mono ?_
      rintro e w14 ⟨rfl, hg⟩
      have N14 : Hid (Below w1.heap.size w1 w14) := N13.out.trans (below_of_grown hg (fun a e => ⟨Nat.le_trans S1.out (P13.out.lies a e).1, (P13.out.lies a e).2⟩) N13.out.size)
      clear hg P13 N13
      go_wp2_with fail
      refine (sameT_any (B := w1.heap.size) HN.out HN.out (by have := HN.out; omega) (T1.out.has.under N14.out) (W1.out.under N14.out)).mono ?_
      rintro e w15 ⟨rfl, hb⟩
      have N15 := Lib.hid (below_next N14.out hb)
      clear hb N14
      go_wp2_with fail
      refine (awake_any P w15 (HG.out.below (below_next B1.out N15.out))).mono ?_
      rintro e w16 ⟨rfl, hb⟩
      have N16 := Lib.hid (below_next N15.out hb)
      clear hb N15
      go_wp2
      go_ret
      exact ⟨rfl, below_next B1.out N16.out⟩
end Go.Proofs.YtjpmglnhnfnmnaaDoor
