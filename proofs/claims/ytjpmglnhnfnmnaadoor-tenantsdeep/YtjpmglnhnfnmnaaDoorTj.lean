/- The law TenantsDeep, walked. -/
import Derived.Test.YtjpmglnhnfnmnaaDoorTi
namespace Go.Proofs.YtjpmglnhnfnmnaaDoor
open Go.RowKit Slices

/-- a line of tenants, each one the child of the one before -/
def lineT (nm : ByteArray) : Nat → List Ten
  | 0 => root
  | k + 1 => moreT (lineT nm k) ((k : Int) + 1) nm
theorem line_len (nm : ByteArray) : ∀ k, (lineT nm k).length = k + 1
  | 0 => rfl
  | k + 1 => by show (moreT _ _ _).length = _; rw [more_len, line_len nm k]
theorem line_par (nm : ByteArray) : ∀ k j, j ≤ k → (tg (lineT nm k) j).par = j
  | 0, j, h => by obtain rfl : j = 0 := by omega
                  rfl
  | k + 1, j, h => by
    show (tg (moreT (lineT nm k) ((k : Int) + 1) nm) j).par = j
    unfold moreT
    by_cases e : j ≤ k
    · rw [tg_left (by rw [line_len]; omega)]; exact line_par nm k j e
    · have e2 : j = (lineT nm k).length := by rw [line_len]; omega
      rw [e2, tg_new, line_len]
      show (k : Int) + 1 = _
      omega
theorem line_nm (nm : ByteArray) : ∀ k j, 1 ≤ j → j ≤ k → (tg (lineT nm k) j).nm = nm
  | 0, j, h, h2 => by omega
  | k + 1, j, h, h2 => by
    show (tg (moreT (lineT nm k) ((k : Int) + 1) nm) j).nm = nm
    unfold moreT
    by_cases e : j ≤ k
    · rw [tg_left (by rw [line_len]; omega)]; exact line_nm nm k j h e
    · have e2 : j = (lineT nm k).length := by rw [line_len]; omega
      rw [e2, tg_new]
theorem line_alone {nm : ByteArray} {k : Nat} : ¬ ChildT (lineT nm k) ((k : Int) + 1) nm := fun ⟨j, hj, hp, _⟩ => by
  rw [line_len] at hj
  rw [line_par nm k j (by omega)] at hp
  omega
theorem line_may {nm : ByteArray} (h1 : 1 ≤ nm.size) (h2 : nm.size ≤ 300) : ∀ k, k ≤ 7 → MayT (lineT nm k)
  | 0, _ => root_may
  | k + 1, h => add_may (.yes (line_may h1 h2 k (by omega)) (by rw [line_len]; omega) ⟨h1, h2⟩ line_alone (by rw [line_len]; omega))
theorem line_add {nm : ByteArray} (h1 : 1 ≤ nm.size) (h2 : nm.size ≤ 300) {k : Nat} (h : k < 7) : AddT (lineT nm k) ((k : Int) + 1) nm 0 :=
  .yes (line_may h1 h2 k (by omega)) (by rw [line_len]; omega) ⟨h1, h2⟩ line_alone (by rw [line_len]; omega)
theorem line_full {nm : ByteArray} (h1 : 1 ≤ nm.size) (h2 : nm.size ≤ 300) : AddT (lineT nm 7) 8 nm 12 :=
  .full (line_may h1 h2 7 (by omega)) (by rw [line_len]; decide) ⟨h1, h2⟩ (line_alone (k := 7)) (by rw [line_len]; decide)
theorem line_twice {nm : ByteArray} (h1 : 1 ≤ nm.size) (h2 : nm.size ≤ 300) {k : Nat} (h : k ≤ 7) (h0 : 1 ≤ k) : AddT (lineT nm k) (k : Int) nm 13 :=
  .twice (line_may h1 h2 k h) (by rw [line_len]; omega) ⟨h1, h2⟩ ⟨k, by rw [line_len]; omega, line_par nm k k (Nat.le_refl _), line_nm nm k k h0 (Nat.le_refl _)⟩
theorem line_path {nm : ByteArray} (h1 : 1 ≤ nm.size) (h2 : nm.size ≤ 300) {k : Nat} (h : k ≤ 7) : ∀ a, 1 ≤ a → a ≤ ((lineT nm k).length : Int) → ((pathT (lineT nm k) a).length : Int) = a ∧ ∀ x, x ∈ pathT (lineT nm k) a ↔ 1 ≤ x ∧ x ≤ a :=
  tenant_rec (line_may h1 h2 k h) fun a a1 a2 ih => by
    have hp : (tg (lineT nm k) (a - 1).toNat).par = a - 1 := by rw [line_par nm k _ (by rw [line_len] at a2; omega)]; omega
    rw [hp] at ih
    rw [pathT_step (line_may h1 h2 k h) a1 a2, hp]
    by_cases e : 1 ≤ a - 1
    · obtain ⟨i1, i2⟩ := ih e
      refine ⟨by rw [List.length_cons]; omega, fun x => ?_⟩
      rw [List.mem_cons, i2]
      omega
    · rw [pathT_none (a := a - 1) (by omega)]
      refine ⟨by simp; omega, fun x => ?_⟩
      rw [List.mem_singleton]
      omega

/-- how far the loop came -/
def DeepAt (w : World) (nm : ByteArray) (k : Nat) (t : Value) (wr : World) : Prop :=
  ∃ A c, t = .slice A (min (k + 1) 8) c ∧ OwnT wr w.heap.size A (min (k + 1) 8) c (lineT nm (min k 7)) ∧ Below w.heap.size w wr

set_option maxRecDepth 100000 in
set_option maxHeartbeats 1000000 in
theorem tenantsDeep_big (P : TenantsOk) (many : Int) (nm : ByteArray) (a b : Int) (w : World) (b1 : nm.size ≤ 4611686018427387904) (h : 300 < nm.size ∨ nm.size = 0) (hg : Han w) :
    Calls Tryd.prog 5 #[.int .i64 many, .string nm, .int .i64 a, .int .i64 b] w fun e w' => e = .returned (.bool true) ∧ Below w.heap.size w w' := by
  have HG := Lib.hid hg
  clear hg
  by_cases h1 : 300 < nm.size
  · clear h
    go_enter Tryd.func5, Tryd.ntmps5
    go_wp2_with (go_at_call 7; refine (awake_any P w HG.out).mono ?_; rintro e w1 ⟨rfl, hb⟩; have B1 := Lib.hid hb; clear hb)
    go_ret
    exact ⟨rfl, B1.out⟩
  · have h2 : nm.size = 0 := by omega
    have h3 : nm = ByteArray.empty := by
      cases nm with
      | mk d => rw [show d = #[] from Array.eq_empty_of_size_eq_zero h2]; rfl
    subst h3
    clear h h1 h2 b1
    go_enter Tryd.func5, Tryd.ntmps5
    go_wp2_with (go_at_call 7; refine (awake_any P w HG.out).mono ?_; rintro e w1 ⟨rfl, hb⟩; have B1 := Lib.hid hb; clear hb)
    go_ret
    exact ⟨rfl, B1.out⟩

set_option maxRecDepth 100000 in
set_option maxHeartbeats 8000000 in
theorem tenantsDeep_small (P : TenantsOk) (many : Int) (nm : ByteArray) (a b : Int) (w : World) (h1 : 1 ≤ nm.size) (h2 : nm.size ≤ 300) (hg : Han w) :
    Calls Tryd.prog 5 #[.int .i64 many, .string nm, .int .i64 a, .int .i64 b] w fun e w' => e = .returned (.bool true) ∧ Below w.heap.size w w' := by
  have HG := Lib.hid hg
  clear hg
  obtain ⟨M, hM⟩ : ∃ M : Nat, (M : Int) = low many 10 := ⟨(low many 10).toNat, by have := low_lo many (n := 10) (by decide); omega⟩
  have hm1 : M < 10 := by have := low_hi many (n := 10) (by decide); omega
  have LOW : Hid (∀ w : World, Calls Tryd.prog 22 #[.int .i64 many, .int .i64 10] w fun e w' => e = .returned (.int .i64 M) ∧ w = w') := fun w => by rw [hM]; exact lawLow_any many 10 w (by decide) (by decide)
  clear hM
  have hne : nm.toList.isEmpty = false := by
    rw [ByteArray.toList_eq]
    cases hc : nm.data.toList with
    | nil =>
      have q : nm.data.toList.length = nm.size := Array.length_toList
      rw [hc] at q
      simp at q
      omega
    | cons x y => rfl
  go_enter Tryd.func5, Tryd.ntmps5
  go_wp2_with fail
  refine (root_any w).mono ?_
  rintro e w1 ⟨g, rfl, ho, hb⟩
  have HST : Hid (DeepAt w nm 0 (.slice (some ⟨g, 0, none⟩) 1 1) w1) := ⟨_, _, rfl, ho, hb⟩
  clear ho hb
  go_wp2
  go_loopw [9, 10] (fun t i wr => ∃ k : Nat, k ≤ M ∧ i = .int .i64 ((k : Int) + 1) ∧ DeepAt w nm k t wr) (fun _ i _ => M + 1 - (intOf i).toNat)
  case atStart => exact ⟨0, by omega, rfl, HST.out⟩
  case round =>
    obtain ⟨k, hk, rfl, A, c, rfl, ho, hb⟩ := hrel
    have HB := Lib.hid hb
    by_cases hlt : k < M
    · by_cases k7 : k < 7
      · rw [show min (k + 1) 8 = k + 1 by omega, show min k 7 = k by omega] at ho
        rw [show min (k + 1) 8 = k + 1 by omega]
        have HO := Lib.hid ho
        have HK := Lib.hid (line_add h1 h2 k7)
        have HM := Lib.hid (line_may h1 h2 k (by omega))
        have HM2 := Lib.hid (line_may h1 h2 (k + 1) (by omega))
        have EL : Hid (addL (lineT nm k) ((k : Int) + 1) nm 0 = lineT nm (k + 1)) := Lib.hid rfl
        have EN : Hid (addN (lineT nm k) 0 = (k : Int) + 1 + 1) := by
          show Hid (((lineT nm k).length : Int) + 1 = _)
          rw [line_len]; exact Lib.hid (by omega)
        have DD : Hid (AddT (lineT nm (k + 1)) ((k : Int) + 2 - 1) nm 13) := by
          have := line_twice h1 h2 (k := k + 1) (by omega) (by omega)
          rw [show ((k + 1 : Nat) : Int) = (k : Int) + 2 - 1 by omega] at this
          exact this
        clear ho hb HST
        go_wp2_with (first | (go_at_call 22; refine (LOW.out _).mono ?_; rintro e w' ⟨rfl, rfl⟩) | fail)
        refine (add_is P HK.out (HO.out.rd HM.out) (by unfold I64; omega) (by omega)).mono ?_
        rw [EL.out, EN.out]
        rintro e w2 ⟨A2, n2, c2, v2, rfl, hX, hE, hb⟩
        obtain rfl := hE.none
        have n2e : n2 = k + 2 := by have q := ownT_len hX; rw [line_len] at q; omega
        subst n2e
        have B2 := Lib.hid (below_next HB.out hb)
        have X2 := Lib.hid hX
        have SZ := Lib.hid HB.out.size
        clear hb hX hE HB HO EL EN HK
        have RX : Hid (∀ wr, OwnT wr _ A2 (k + 2) c2 (lineT nm (k + 1)) → Below w.heap.size w wr → DeepAt w nm (k + 1) (.slice A2 (k + 2) c2) wr) := fun wr hx hb => by
          refine ⟨A2, c2, by rw [show min (k + 1 + 1) 8 = k + 2 by omega], ?_, hb⟩
          rw [show min (k + 1 + 1) 8 = k + 2 by omega, show min (k + 1) 7 = k + 1 by omega]
          exact own_le hx SZ.out
        have kk : (1 ≤ k ∧ k ≤ 5) ∨ k ≤ 0 ∨ 6 ≤ k := by omega
        rcases kk with ⟨kk1, kk2⟩ | kk | kk
        · go_wp2_with fail
          refine (add_is P DD.out (X2.out.rd HM2.out) (by unfold I64; omega) (by omega)).mono ?_
          rintro e w3 ⟨A3, n3, c3, v3, rfl, hX, hE, hb⟩
          have E3 := Lib.hid hE
          have B3 := Lib.hid (below_next B2.out hb)
          have X3 := Lib.hid (X2.out.next hb)
          clear hX hE hb B2 X2 DD
          go_wp2_with fail
          refine (num_any 13 v3 w3 (HG.out.below B3.out) E3.out).mono ?_
          rintro e w4 ⟨rfl, hb⟩
          have B4 := Lib.hid (below_next B3.out hb)
          have X4 := Lib.hid (X3.out.next hb)
          clear hb B3 X3 E3
          go_wp2
          go_roundw
          case rel => exact ⟨k + 1, by omega, by go_num, RX.out _ X4.out B4.out⟩
          case measure => simp [intOf]; omega
        · clear DD
          go_wp2
          go_roundw
          case rel => exact ⟨k + 1, by omega, by go_num, RX.out _ X2.out B2.out⟩
          case measure => simp [intOf]; omega
        · clear DD
          go_wp2
          go_roundw
          case rel => exact ⟨k + 1, by omega, by go_num, RX.out _ X2.out B2.out⟩
          case measure => simp [intOf]; omega
      · rw [show min (k + 1) 8 = 8 by omega, show min k 7 = 7 by omega] at ho
        rw [show min (k + 1) 8 = 8 by omega]
        have HO := Lib.hid ho
        have HK := Lib.hid (line_full h1 h2)
        have HM := Lib.hid (line_may h1 h2 7 (by omega))
        have EL : Hid (addL (lineT nm 7) 8 nm 12 = []) := Lib.hid rfl
        have EN : Hid (addN (lineT nm 7) 12 = 0) := Lib.hid rfl
        clear ho hb HST
        go_wp2_with (first | (go_at_call 22; refine (LOW.out _).mono ?_; rintro e w' ⟨rfl, rfl⟩) | fail)
        refine (add_is P HK.out (HO.out.rd HM.out) (by unfold I64; omega) (by omega)).mono ?_
        rw [EL.out, EN.out]
        rintro e w2 ⟨A2, n2, c2, v2, rfl, hX, hE, hb⟩
        have n2e : n2 = 0 := (ownT_len hX).symm
        subst n2e
        have E2 := Lib.hid hE
        have B2 := Lib.hid (below_next HB.out hb)
        have O2 := Lib.hid (HO.out.next hb)
        clear hb hX hE HB HO EL EN HK
        go_wp2_with fail
        refine (num_any 12 v2 w2 (HG.out.below B2.out) E2.out).mono ?_
        rintro e w3 ⟨rfl, hb⟩
        have B3 := Lib.hid (below_next B2.out hb)
        have O3 := Lib.hid (O2.out.next hb)
        clear hb B2 O2 E2
        go_wp2
        go_roundw
        case rel => exact ⟨k + 1, by omega, by go_num, A, c, by rw [show min (k + 1 + 1) 8 = 8 by omega], by rw [show min (k + 1 + 1) 8 = 8 by omega, show min (k + 1) 7 = 7 by omega]; exact O3.out, B3.out⟩
        case measure => simp [intOf]; omega
    · obtain rfl : k = M := by omega
      have HL := Lib.hid (line_path h1 h2 (k := min k 7) (by omega))
      have HM := Lib.hid (line_may h1 h2 (min k 7) (by omega))
      have MC := Lib.hid (mayC_yes HM.out)
      have LL : Hid (((lineT nm (min k 7)).length : Int) = min (k + 1) 8) := by rw [line_len]; exact Lib.hid (by omega)
      have HO := Lib.hid ho
      obtain ⟨N, hN⟩ : ∃ N, N = min (k + 1) 8 := ⟨_, rfl⟩
      have N1 : 1 ≤ N := by omega
      have N8 : N ≤ 8 := by omega
      have LN : Hid (((lineT nm (min k 7)).length : Int) = N) := by rw [hN, LL.out]; exact Lib.hid (by omega)
      rw [← hN] at HO ⊢
      generalize lineT nm (min k 7) = l at HL HM MC HO LN
      clear ho hb HST hN LL hlt hk
      go_wp2_with (first | (go_at_call 22; refine (LOW.out _).mono ?_; rintro e w' ⟨rfl, rfl⟩) | fail)
      refine (low_some a N _ (by omega) (by omega)).mono ?_
      rintro e w2 ⟨za, rfl, za0, za1, rfl⟩
      go_wp2_with fail
      refine (low_some b N _ (by omega) (by omega)).mono ?_
      rintro e w2 ⟨zb, rfl, zb0, zb1, rfl⟩
      obtain ⟨x, hx⟩ : ∃ x, x = 1 + za := ⟨_, rfl⟩
      obtain ⟨y, hy⟩ : ∃ y, y = 1 + zb := ⟨_, rfl⟩
      have x0 : 1 ≤ x ∧ x ≤ (N : Int) := by omega
      have y0 : 1 ≤ y ∧ y ≤ (N : Int) := by omega
      have IX : Hid (I64 x) := by unfold I64; exact Lib.hid ⟨by omega, by omega⟩
      have IY : Hid (I64 y) := by unfold I64; exact Lib.hid ⟨by omega, by omega⟩
      have PL := Lib.hid (HL.out x x0.1 (by rw [LN.out]; exact x0.2)).1
      have D1 : Hid (decide (x ∈ pathT l y) = decide (x ≤ y)) := by
        rw [decide_eq_decide, (HL.out y y0.1 (by rw [LN.out]; exact y0.2)).2]
        exact Lib.hid (by omega)
      have EX := Lib.hid hx
      have EY := Lib.hid hy
      clear hx hy
      go_wp2_with fail
      rw [← EX.out]
      refine (P.path A N c l x _ (HO.out.rd HM.out) IX.out).mono ?_
      rw [← EY.out]
      rintro e w2 ⟨A4, c4, rfl, hP, hb⟩
      have B2 := Lib.hid (below_next HB.out hb)
      have O2 := Lib.hid (HO.out.next hb)
      have t1 : (((pathT l x).length : Int) == x) = true := by rw [PL.out]; simp
      clear hP hb HB HO za0 za1 zb0 zb1 EX EY x0 y0
      generalize (pathT l x).length = LP at t1 ⊢
      go_wp2_with fail
      refine (P.above A N c l x y _ (O2.out.rd HM.out) IX.out IY.out).mono ?_
      rw [D1.out]
      rintro e w3 ⟨rfl, hb⟩
      have B3 := Lib.hid (below_next B2.out hb)
      have O3 := Lib.hid (O2.out.next hb)
      clear hb B2 O2
      go_wp2_with fail
      refine (P.may A N c l _ (O3.out.rd HM.out)).mono ?_
      rw [MC.out]
      rintro e w4 ⟨rfl, hb⟩
      have B4 := Lib.hid (below_next B3.out hb)
      clear hb B3 O3
      go_wp2_with fail
      refine (awake_any P _ (HG.out.below B4.out)).mono ?_
      rintro e w5 ⟨rfl, hb⟩
      have B5 := Lib.hid (below_next B4.out hb)
      clear hb B4
      go_wp2
      go_ret
      exact ⟨rfl, B5.out⟩
end Go.Proofs.YtjpmglnhnfnmnaaDoor
