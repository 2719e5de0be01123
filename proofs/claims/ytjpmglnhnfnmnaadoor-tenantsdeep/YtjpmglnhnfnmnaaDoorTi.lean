/- The law TenantsGrow, walked. -/
import Derived.Test.YtjpmglnhnfnmnaaDoorTh
namespace Go.Proofs.YtjpmglnhnfnmnaaDoor
open Go.RowKit Slices

/-- texts that are handed in -/
def HasS (w : World) (B : Nat) (A : Option Addr) (ss : List ByteArray) : Prop :=
  ∀ k, k < ss.length → ∃ a : Addr, A = some a ∧ a.block < B ∧ w.cell? (a.add k) = some (.string (ss.getD k ByteArray.empty))

/-- append onto what the call made, whatever is appended, behind a guard -/
theorem append_on {P : Program} (w : World) {ops : Array Oper} {rest : List Oper} {o : Oper} {a : Act} {Q : Exit → Act → World → Prop} (hw : Region.wanted o (yielded ops a.tmps) = true) (s x : Operand) (t : TypeId)
    (ho : o.op = .call { callee := .builtin .append, args := #[s, x], argTypes := #[t, t] })
    (base : Nat) (e : TypeId) (i : TypeInfo) (z : Value) (size bytes : Nat) (ht : P.underlying t = some (.slice e)) (hi : P.info? e = some i) (hz : i.zero = some z)
    (hsize : i.size = size) (hby : i.bytes = bytes) (hzs : z.cells.size = size) (hsz : 0 < size)
    (v : Value) (n : Nat) (xs : List Value) (hs : a.eval s = v) (hown : w.ownsRow base e size v n xs)
    (ao : Option Addr) (m c : Nat) (news : List Value) (hx : a.eval x = .slice ao m c) (hl : news.length = m * size) (hnone : ao = none → m = 0 ∧ c = 0) (hnews : ∀ ad, ao = some ad → ∀ j u, news[j]? = some u → w.cell? (ad.add j) = some u) (h1 : ∀ u ∈ news, u.oneCell' = true)
    (h63 : n + m ≤ maxLen) (hbytes : (n + m) * bytes ≤ 140737488355328) (hbase : base ≤ w.heap.size)
    (h : ∀ v' w', w'.ownsRow base e size v' (n + m) (xs ++ news) → w.grownBy w' v.ownBlock → wpList P ops Q rest (a.put o.dst v') w') : wpList P ops Q (o :: rest) a w := by
  refine wpList_step fun K hK => ?_
  rw [if_pos hw]
  cases ao with
  | some ad => exact wp_append_own w s x t ho base e i z size bytes ht hi hz hsize hby hzs hsz v n xs hs hown ad m c news hx hl (hnews ad rfl) h1 h63 hbytes hbase fun v' w' a b _ => hK _ _ (h v' w' a b)
  | none =>
    obtain ⟨rfl, rfl⟩ := hnone rfl
    have hn : news = [] := List.eq_nil_of_length_eq_zero (by simpa using hl)
    subst hn
    have hrun := run_append_owned_none (P := P) (w := w) base t o.type e i size ht hi v n xs hown
    unfold Oper.wp
    simp [execOp, ho, resolve, invoke, builtin, hs, hx, hrun, Result.andThen]
    exact hK _ _ (h v w (by simpa using hown) (World.grownBy.refl _ _))
theorem new_own (w : World) (x : Int) : (w.alloc (.cells #[.int .i64 x] 3)).ownsRow w.heap.size 3 1 (.slice (some ⟨w.heap.size, 0, none⟩) 1 1) 1 (ints .i64 [x]) :=
  ⟨rfl, .inr ⟨w.heap.size, 1, #[.int .i64 x], rfl, Nat.le_refl _, heap_alloc_new w _, Nat.le_refl _, by unfold maxLen; omega, rfl, rfl⟩⟩

theorem own_le {t : TypeId} {z : Nat} {w : World} {B B' n : Nat} {v : Value} {xs : List Value} (h : w.ownsRow B t z v n xs) (hb : B' ≤ B) : w.ownsRow B' t z v n xs :=
  ⟨h.1, h.2.elim Or.inl (fun ⟨g, cap, cur, hv, hg, r⟩ => Or.inr ⟨g, cap, cur, hv, Nat.le_trans hb hg, r⟩)⟩
/-- what holds at each round -/
def GrowAt (w : World) (t : Value) (wr : World) : Prop :=
  ∃ A n c l, t = .slice A n c ∧ MayT l ∧ 1 ≤ n ∧ OwnT wr w.heap.size A n c l ∧ Below w.heap.size w wr

set_option maxRecDepth 100000 in
set_option maxHeartbeats 1000000 in
theorem tenantsGrow_big (P : TenantsOk) (A0 A1 : Option Addr) (n0 c0 n1 c1 : Nat) (a b c : Int) (w : World) (b0 : n0 ≤ 4611686018427387904) (b1 : n1 ≤ 4611686018427387904) (h : 20 < n0 ∨ 20 < n1) (hg : Han w) :
    Calls Tryd.prog 4 #[.slice A0 n0 c0, .slice A1 n1 c1, .int .i64 a, .int .i64 b, .int .i64 c] w fun e w' => e = .returned (.bool true) ∧ Below w.heap.size w w' := by
  have HG := Lib.hid hg
  clear hg
  by_cases h1 : 20 < n0
  · clear h
    go_enter Tryd.func4, Tryd.ntmps4
    go_wp2_with (go_at_call 7; refine (awake_any P w HG.out).mono ?_; rintro e w1 ⟨rfl, hb⟩; have B1 := Lib.hid hb; clear hb)
    go_ret
    exact ⟨rfl, B1.out⟩
  · have h2 : 20 < n1 := by omega
    clear h
    go_enter Tryd.func4, Tryd.ntmps4
    go_wp2_with (go_at_call 7; refine (awake_any P w HG.out).mono ?_; rintro e w1 ⟨rfl, hb⟩; have B1 := Lib.hid hb; clear hb)
    go_ret
    exact ⟨rfl, B1.out⟩

set_option maxRecDepth 100000 in
set_option maxHeartbeats 8000000 in
theorem tenantsGrow_small (P : TenantsOk) (A0 A1 : Option Addr) (n0 c0 n1 c1 : Nat) (ps : List Int) (ss : List ByteArray) (a b c : Int) (w : World) (e0 : n0 = ps.length) (h0 : Has .i64 w w.heap.size A0 ps) (e1 : n1 = ss.length) (h1 : HasS w w.heap.size A1 ss) (s0 : n0 ≤ 20) (s1 : n1 ≤ 20) (hg : Han w) :
    Calls Tryd.prog 4 #[.slice A0 n0 c0, .slice A1 n1 c1, .int .i64 a, .int .i64 b, .int .i64 c] w fun e w' => e = .returned (.bool true) ∧ Below w.heap.size w w' := by
  obtain ⟨i0, hi0, hz0, hz1, hz2⟩ := info_parts Tryd.info3
  have HG := Lib.hid hg
  have E0 := Lib.hid e0
  have E1 := Lib.hid e1
  have H0 := Lib.hid h0
  have H1 := Lib.hid h1
  clear hg e0 e1 h0 h1
  go_enter Tryd.func4, Tryd.ntmps4
  go_wp2_with fail
  refine (root_any w).mono ?_
  rintro e w1 ⟨g, rfl, ho, hb⟩
  have HST : Hid (GrowAt w (.slice (some ⟨g, 0, none⟩) 1 1) w1) := ⟨_, _, _, _, rfl, root_may, Nat.le_refl _, ho, hb⟩
  clear ho hb
  go_wp2
  go_loopw [11, 12] (fun t i wr => ∃ k : Nat, k ≤ n0 ∧ i = .int .i64 k ∧ GrowAt w t wr) (fun _ i _ => n0 - (intOf i).toNat)
  case atStart => exact ⟨0, by omega, rfl, HST.out⟩
  case round =>
    obtain ⟨k, hk, rfl, A, n, cc, l, rfl, hm, hn1, ho, hb⟩ := hrel
    have HM := Lib.hid hm
    have HO := Lib.hid ho
    have HB := Lib.hid hb
    have HNL : Hid (n = l.length) := (ownT_len ho).symm
    have n8 : n ≤ 8 := by rw [HNL.out]; exact hm.few
    clear hm ho hb HST
    by_cases hb2 : k < n0 ∧ k < n1
    · have hlt := hb2.1
      have hlt1 := hb2.2
      clear hb2
      · obtain ⟨ad0, rfl, hb0, hc0⟩ := H0.out k (by rw [← E0.out]; exact hlt)
        obtain ⟨ad1, rfl, hb1, hc1⟩ := H1.out k (by rw [← E1.out]; exact hlt1)
        obtain ⟨x, hx⟩ : ∃ x, x = ps.getD k 0 := ⟨_, rfl⟩
        obtain ⟨s, hs⟩ : ∃ s, s = ss.getD k ByteArray.empty := ⟨_, rfl⟩
        rw [← hx] at hc0
        rw [← hs] at hc1
        have C0 : Hid (w.cell? (ad0.add k) = some (.int .i64 x)) := hc0
        have C1 : Hid (w.cell? (ad1.add k) = some (.string s)) := hc1
        have BB0 := Lib.hid hb0
        have BB1 := Lib.hid hb1
        clear hx hs hc0 hc1 hb0 hb1
        have d0 := (HB.out.cell (by rw [add_block]; exact BB0.out)).trans C0.out
        have d1 := (HB.out.cell (by rw [add_block]; exact BB1.out)).trans C1.out
        by_cases hs3 : 300 < s.size
        · go_wp2
          go_roundw
          case rel => exact ⟨k + 1, by omega, by go_num, _, _, _, _, rfl, HM.out, hn1, HO.out, HB.out⟩
          case measure => simp [intOf]; omega
        · go_wp2_with fail
          refine (low_some x n _ (by omega) (by omega)).mono ?_
          rintro e w2 ⟨z, rfl, z0, z1, rfl⟩
          obtain ⟨p, hp⟩ : ∃ p, p = 1 + z := ⟨_, rfl⟩
          have p0 : 1 ≤ p := by omega
          have p1 : p ≤ n := by omega
          have EP := Lib.hid hp
          clear hp
          go_wp2_with fail
          rw [← EP.out]
          refine (P.add A n cc l p s _ (HO.out.rd HM.out) (by unfold I64; omega) (by omega)).mono ?_
          rintro e w2 ⟨k', A2, n2, c2, v2, hk', rfl, hX, hE, hb⟩
          have HK := Lib.hid hk'
          have B2 := Lib.hid (below_next HB.out hb)
          have O2 := Lib.hid (HO.out.next hb)
          have X2 := Lib.hid hX
          have E2 := Lib.hid hE
          have NX := Lib.hid (ownT_len hX)
          have SZ := Lib.hid HB.out.size
          clear hb hX hE hk' HO HB z0 z1 EP
          by_cases hz : k' = 0
          · subst hz
            obtain rfl := E2.out.none
            have eX : addL l p s 0 = moreT l p s := rfl
            have X3 : Hid (OwnT w2 _ A2 n2 c2 (moreT l p s)) := X2
            have n2e : n2 = n + 1 := by have q := NX.out; rw [eX, more_len, ← HNL.out] at q; exact q.symm
            subst n2e
            have eN : addN l 0 = (n : Int) + 1 := by rw [HNL.out]; rfl
            have MM := Lib.hid (add_may HK.out)
            have MC := Lib.hid (mayC_yes MM.out)
            have PM : Hid (pathT (moreT l p s) ((n : Int) + 1) = ((n : Int) + 1) :: pathT l p) := by rw [HNL.out]; exact Lib.hid (path_more HK.out)
            have lo2 : n + 1 ≤ 9 := by omega
            rw [eN]
            clear eX eN X2 E2 NX
            go_wp2_with fail
            refine (P.may A2 (n + 1) c2 _ _ (X3.out.rd MM.out)).mono ?_
            rw [MC.out]
            rintro e w3 ⟨rfl, hb⟩
            have B3 := Lib.hid (below_next B2.out hb)
            have O3 := Lib.hid (O2.out.next hb)
            have X4 := Lib.hid (X3.out.next hb)
            clear hb B2 O2 X3
            go_wp2_with fail
            refine (P.path A2 (n + 1) c2 _ ((n : Int) + 1) _ (X4.out.rd MM.out) (by unfold I64; omega)).mono ?_
            rw [PM.out]
            obtain ⟨PT, hPT⟩ : ∃ PT, PT = pathT l p := ⟨_, rfl⟩
            have pf : PT.length ≤ 8 := by rw [hPT]; exact path_few l p
            have HPT := Lib.hid hPT
            rw [← hPT]
            rintro e w4 ⟨A4, c4, rfl, hP, hb⟩
            have B4 := Lib.hid (below_next B3.out hb)
            have O4 := Lib.hid (O3.out.next hb)
            have X5 := Lib.hid (X4.out.next hb)
            have R4 := Lib.hid (own_read hP)
            have L4 : (((n : Int) + 1) :: PT).length = PT.length + 1 := rfl
            rw [L4]
            clear hb hP B3 O3 X4 hPT PM L4
            have B5 : Hid (Below w.heap.size w (w4.alloc (.cells #[.int .i64 ((n : Int) + 1)] 3))) := B4.out.alloc B4.out.size _
            have N5 : Hid (Below w4.heap.size w4 (w4.alloc (.cells #[.int .i64 ((n : Int) + 1)] 3))) := (Below.refl _ _).alloc (Nat.le_refl _) _
            have Q5 := Lib.hid (new_own w4 ((n : Int) + 1))
            go_wp2_with fail
            refine (P.path A n cc l p (w4.alloc (.cells #[.int .i64 ((n : Int) + 1)] 3)) ((O4.out.next N5.out).rd HM.out) (by unfold I64; omega)).mono ?_
            rw [← HPT.out]
            rintro e w5 ⟨A5, c5, rfl, hP, hb⟩
            have N6 := Lib.hid (below_next N5.out hb)
            have Q6 := Lib.hid (own_next Q5.out hb)
            have R6 := Lib.hid (own_read hP)
            have Z6 := Lib.hid (own_none hP)
            clear hb hP N5 B5 Q5
            go_wp2_with (at_builtin; refine append_on w5 (by rfl) (.tmp 95) (.tmp 98) 31 rfl w4.heap.size 3 i0 (.int .i64 0) 1 8 Tryd.underlying31 hi0 hz0 hz1 hz2 rfl (by decide) (.slice (some ⟨w4.heap.size, 0, none⟩) 1 1) 1 (ints .i64 [(n : Int) + 1]) rfl Q6.out A5 PT.length c5 (ints .i64 PT) rfl (by rw [ints_length]; omega) Z6.out R6.out.cells (ints_one _ _) (by unfold maxLen; omega) (by omega) N6.out.size ?_; intro v6 w6 hown hgr; have O7 := Lib.hid hown; have N7 : Hid (Below w4.heap.size w4 w6) := N6.out.grown hgr N6.out.size (fun q hq => (Q6.out.lt q hq).1); obtain ⟨A7, c7, rfl⟩ := own_slice hown; clear hown hgr)
            refine (same_any (l := ((n : Int) + 1) :: PT) (l' := [(n : Int) + 1] ++ PT) rfl rfl (by simp; omega) (by simp; omega) ((R4.out.below N7.out).mono N7.out.size) (by
              have q := O7.out
              rw [← ints_app] at q
              exact (by have e : 1 + PT.length = ([(n : Int) + 1] ++ PT).length := by simp; omega
                        rw [e] at q
                        exact own_read q))).mono ?_
            rintro e w7 ⟨rfl, hb⟩
            have N8 : Hid (Below w4.heap.size w4 w7) := below_next N7.out hb
            have B8 := Lib.hid (below_next B4.out N8.out)
            have X8 := Lib.hid (X5.out.next N8.out)
            clear hb N6 N7 N8 Q6 R6 Z6 O7 R4 O4 X5 B4 HPT
            go_wp2
            go_roundw
            case rel => exact ⟨k + 1, by omega, by go_num, _, _, _, _, rfl, MM.out, by omega, own_le X8.out SZ.out, B8.out⟩
            case measure => simp [intOf]; omega
          · have eX : addL l p s k' = [] := if_neg hz
            have eN : addN l k' = 0 := if_neg hz
            have n2e : n2 = 0 := by have q := NX.out; rw [eX] at q; exact q.symm
            subst n2e
            obtain ⟨pp, rfl⟩ := E2.out.some hz
            rw [eN]
            clear eX eN X2 E2 NX HK
            go_wp2
            go_roundw
            case rel => exact ⟨k + 1, by omega, by go_num, _, _, _, _, rfl, HM.out, hn1, O2.out, B2.out⟩
            case measure => simp [intOf]; omega
    · have hb3 : (k < n0 ∧ ¬ k < n1) ∨ ¬ k < n0 := by omega
      clear hb2
      rcases hb3 with ⟨hb3, hb4⟩ | hb3
      all_goals
        go_wp2_with fail
        refine (low_some a n _ (by omega) (by omega)).mono ?_
        rintro e w2 ⟨za, rfl, za0, za1, rfl⟩
        go_wp2_with fail
        refine (low_some b n _ (by omega) (by omega)).mono ?_
        rintro e w2 ⟨zb, rfl, zb0, zb1, rfl⟩
        go_wp2_with fail
        refine (low_some c n _ (by omega) (by omega)).mono ?_
        rintro e w2 ⟨zc, rfl, zc0, zc1, rfl⟩
        obtain ⟨x, hx⟩ : ∃ x, x = 1 + za := ⟨_, rfl⟩
        obtain ⟨y, hy⟩ : ∃ y, y = 1 + zb := ⟨_, rfl⟩
        obtain ⟨z, hz⟩ : ∃ z, z = 1 + zc := ⟨_, rfl⟩
        have x0 : 1 ≤ x ∧ x ≤ (l.length : Int) := by rw [← HNL.out]; omega
        have y0 : 1 ≤ y ∧ y ≤ (l.length : Int) := by rw [← HNL.out]; omega
        have z0 : 1 ≤ z ∧ z ≤ (l.length : Int) := by rw [← HNL.out]; omega
        have IX : Hid (I64 x) := by unfold I64; exact Lib.hid ⟨by omega, by omega⟩
        have IY : Hid (I64 y) := by unfold I64; exact Lib.hid ⟨by omega, by omega⟩
        have IZ : Hid (I64 z) := by unfold I64; exact Lib.hid ⟨by omega, by omega⟩
        have D0 := Lib.hid (decide_eq_true (path_root HM.out x x0.1 x0.2))
        have D1 := Lib.hid (decide_eq_true (path_self HM.out x0.1 x0.2))
        have EXY : Hid (x ∈ pathT l y → y ∈ pathT l x → (x == y) = true) := fun q r => by
          have q1 := path_mem HM.out y y0.1 y0.2 x q
          have r1 := path_mem HM.out x x0.1 x0.2 y r
          rw [beq_iff_eq]; omega
        have TR : Hid (x ∈ pathT l y → y ∈ pathT l z → x ∈ pathT l z) := fun q r => path_trans HM.out q z z0.1 z0.2 r
        have EX := Lib.hid hx
        have EY := Lib.hid hy
        have EZ := Lib.hid hz
        clear hx hy hz x0 y0 z0
        go_wp2_with fail
        rw [← EX.out]
        refine (P.above A n cc l 1 x _ (HO.out.rd HM.out) (by unfold I64; omega) IX.out).mono ?_
        rw [D0.out, ← EY.out, ← EZ.out]
        clear za0 za1 zb0 zb1 zc0 zc1 EX EY EZ
        rintro e w2 ⟨rfl, hb⟩
        have BN := Lib.hid (below_next HB.out hb)
        have ON := Lib.hid (HO.out.next hb)
        clear hb HB HO
        obtain ⟨X1, h1⟩ : ∃ X, X = decide (x ∈ pathT l y) := ⟨_, rfl⟩
        obtain ⟨X2, h2⟩ : ∃ X, X = decide (y ∈ pathT l x) := ⟨_, rfl⟩
        obtain ⟨X3, h3⟩ : ∃ X, X = decide (y ∈ pathT l z) := ⟨_, rfl⟩
        cases X1 <;> cases X2 <;> cases X3
        all_goals
          have F1 := Lib.hid h1.symm
          have F2 := Lib.hid h2.symm
          have F3 := Lib.hid h3.symm
          try have e12 := EXY.out (of_decide_eq_true h1.symm) (of_decide_eq_true h2.symm)
          try have F4 := Lib.hid (decide_eq_true (TR.out (of_decide_eq_true h1.symm) (of_decide_eq_true h3.symm)))
          clear h1 h2 h3
          go_wp2_with (first
            | (go_at_call 15; (first
                | (with_reducible refine (P.above A n cc l x x _ (ON.out.rd HM.out) IX.out IX.out).mono ?_; rw [D1.out])
                | (with_reducible refine (P.above A n cc l x y _ (ON.out.rd HM.out) IX.out IY.out).mono ?_; rw [F1.out])
                | (with_reducible refine (P.above A n cc l y x _ (ON.out.rd HM.out) IY.out IX.out).mono ?_; rw [F2.out])
                | (with_reducible refine (P.above A n cc l y z _ (ON.out.rd HM.out) IY.out IZ.out).mono ?_; rw [F3.out])
                | (with_reducible refine (P.above A n cc l x z _ (ON.out.rd HM.out) IX.out IZ.out).mono ?_; rw [F4.out])); rintro e w' ⟨rfl, hb⟩; have BN := Lib.hid (below_next BN.out hb); have ON := Lib.hid (ON.out.next hb); clear hb)
            | (go_at_call 7; refine (awake_any P _ (HG.out.below BN.out)).mono ?_; rintro e w' ⟨rfl, hb⟩; have BN := Lib.hid (below_next BN.out hb); clear hb))
          go_ret
          exact ⟨rfl, BN.out⟩
end Go.Proofs.YtjpmglnhnfnmnaaDoor
