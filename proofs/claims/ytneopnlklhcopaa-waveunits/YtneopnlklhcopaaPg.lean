/- Contracts: the program's sums of products, and how far the furthest number is. -/
import Derived.Test.YtneopnlklhcopaaPf
namespace Go.Proofs.Ytneopnlklhcopaa
open Go.RowKit Slices Go.Proofs.Ytneopnlklhcopaa.Ring

set_option maxRecDepth 100000 in
set_option maxHeartbeats 400000 in
theorem allMay_yes (A : Option Addr) (c B : Nat) (es : List Ent) (w : World) (h : HasL w B A es) (hn : es.length ≤ 300) (hp : AllPoly (nums es)) :
    Calls Try.prog 47 #[.slice A es.length c] w fun e w' => e = .returned (.bool true) ∧ ∃ n, w' = w.drewN n := by
  have H := Lib.hid h
  have HP := Lib.hid hp
  clear h hp
  go_enter Try.func47, Try.ntmps47
  go_wp2
  go_loopw [7] (fun i wr => ∃ k n : Nat, k ≤ es.length ∧ i = .int .i64 k ∧ wr = w.drewN n) (fun i _ => es.length - (intOf i).toNat)
  case atStart => exact ⟨0, 0, Nat.zero_le _, rfl, rfl⟩
  case round =>
    obtain ⟨k, n, hk, rfl, rfl⟩ := hrel
    by_cases hlt : k < es.length
    · obtain ⟨⟨a, e, _, ha⟩, hf⟩ := (H.out.drewN n) k hlt
      subst e
      have pe := all_at HP.out hlt
      have HF := Lib.hid hf
      have PE := Lib.hid pe
      clear hf pe
      generalize es[k].l = le at ha HF PE
      generalize es[k].A = Ae at ha HF
      generalize es[k].c = ce at ha
      go_wp2_with (go_at_call 24; refine (pMay_yes _ _ _ le _ HF.out PE.out).mono ?_; rintro e w' ⟨rfl, n', rfl⟩)
      go_roundw
      case rel => exact ⟨k + 1, n + n', by omega, by go_num, rfl⟩
      case measure => simp [intOf]; omega
    · go_wp2
      go_ret
      exact ⟨rfl, n, rfl⟩

set_option maxRecDepth 100000 in
set_option maxHeartbeats 400000 in
theorem allMay_no (A : Option Addr) (c B : Nat) (es : List Ent) (w : World) (h : HasL w B A es) (hn : es.length ≤ 300) (hp : ¬ AllPoly (nums es)) :
    Calls Try.prog 47 #[.slice A es.length c] w fun e w' => e = .returned (.bool false) ∧ ∃ n, w' = w.drewN n := by
  obtain ⟨j, hj, hb⟩ := all_not hp
  have H := Lib.hid h
  have HB := Lib.hid hb
  clear h hp hb
  go_enter Try.func47, Try.ntmps47
  go_wp2
  go_loopw [7] (fun i wr => ∃ k n : Nat, k ≤ j ∧ i = .int .i64 k ∧ wr = w.drewN n) (fun i _ => es.length - (intOf i).toNat)
  case atStart => exact ⟨0, 0, Nat.zero_le _, rfl, rfl⟩
  case round =>
    obtain ⟨k, n, hk, rfl, rfl⟩ := hrel
    have hlt : k < es.length := by omega
    obtain ⟨⟨a, e, _, ha⟩, hf⟩ := (H.out.drewN n) k hlt
    subst e
    have HF := Lib.hid hf
    clear hf
    by_cases hx : IsPoly es[k].l
    · have hne : k ≠ j := fun e => by subst e; exact HB.out hx
      have hk' : k + 1 ≤ j := by omega
      have PE := Lib.hid hx
      clear hne hx HB
      generalize es[k].l = le at ha HF PE
      generalize es[k].A = Ae at ha HF
      generalize es[k].c = ce at ha
      go_wp2_with (go_at_call 24; refine (pMay_yes _ _ _ le _ HF.out PE.out).mono ?_; rintro e w' ⟨rfl, n', rfl⟩)
      go_roundw
      case rel => exact ⟨k + 1, n + n', by omega, by go_num, rfl⟩
      case measure => simp [intOf]; omega
    · have PE := Lib.hid hx
      clear hx HB
      generalize es[k].l = le at ha HF PE
      generalize es[k].A = Ae at ha HF
      generalize es[k].c = ce at ha
      go_wp2_with (go_at_call 24; refine (pMay_no _ _ _ le _ HF.out PE.out).mono ?_; rintro e w' ⟨rfl, n', rfl⟩)
      go_ret
      exact ⟨rfl, n + n', rfl⟩

set_option maxRecDepth 100000 in
set_option maxHeartbeats 400000 in
theorem pDot_len (A A' : Option Addr) (c c' n m : Nat) (w : World) (hn : n ≤ 300) (hm : m ≤ 300) (h : n ≠ m ∨ n = 0) :
    Calls Try.prog 34 #[.slice A n c, .slice A' m c'] w (NilPost w) := by
  by_cases h1 : n = m
  · have h0 : n = 0 := by omega
    subst h1
    subst h0
    go_enter Try.func34, Try.ntmps34
    go_wp2
    go_ret
    exact ⟨rfl, Below.refl _ _⟩
  · have t : ((n : Int) != m) = true := by rw [bne_iff_ne]; omega
    clear h h1
    go_enter Try.func34, Try.ntmps34
    go_wp2
    go_ret
    exact ⟨rfl, Below.refl _ _⟩

set_option maxRecDepth 100000 in
set_option maxHeartbeats 400000 in
theorem pDot_bad (A A' : Option Addr) (c c' : Nat) (es ds : List Ent) (w : World) (h : HasL w w.heap.size A es) (h' : HasL w w.heap.size A' ds) (hl : es.length = ds.length) (h0 : 0 < es.length) (hn : es.length ≤ 300)
    (hp : ¬ (AllPoly (nums es) ∧ AllPoly (nums ds))) :
    Calls Try.prog 34 #[.slice A es.length c, .slice A' ds.length c'] w (NilPost w) := by
  have t1 : ((es.length : Int) != ds.length) = false := by rw [bne_eq_false_iff_eq]; omega
  have t2 : ((es.length : Int) == 0) = false := by rw [beq_eq_false_iff_ne]; omega
  have hm : ds.length ≤ 300 := by omega
  have H := Lib.hid h
  have H' := Lib.hid h'
  clear h h' hl
  by_cases hl : AllPoly (nums es)
  · have hm : ¬ AllPoly (nums ds) := fun g => hp ⟨hl, g⟩
    have HP := Lib.hid hl
    have HQ := Lib.hid hm
    clear hp hl hm
    go_enter Try.func34, Try.ntmps34
    go_wp2_with (go_at_call 47; (first | (with_reducible refine (allMay_yes _ _ _ es _ H.out hn HP.out).mono ?_) | (with_reducible refine (allMay_no _ _ _ ds _ (H'.out.drewN _) (by omega) HQ.out).mono ?_)); rintro e w' ⟨rfl, n, rfl⟩)
    go_ret
    exact ⟨rfl, below_drewN (Below.refl _ _) _⟩
  · have HP := Lib.hid hl
    clear hp hl
    go_enter Try.func34, Try.ntmps34
    go_wp2_with (go_at_call 47; refine (allMay_no _ _ _ es _ H.out hn HP.out).mono ?_; rintro e w' ⟨rfl, n, rfl⟩)
    go_ret
    exact ⟨rfl, below_drewN (Below.refl _ _) _⟩

set_option maxRecDepth 100000 in
set_option maxHeartbeats 4000000 in
theorem pDot_yes (A A' : Option Addr) (c c' : Nat) (es ds : List Ent) (w : World) (h : HasL w w.heap.size A es) (h' : HasL w w.heap.size A' ds) (hl : es.length = ds.length) (h0 : 0 < es.length) (hn : es.length ≤ 300)
    (hp : AllPoly (nums es)) (hq : AllPoly (nums ds)) :
    Calls Try.prog 34 #[.slice A es.length c, .slice A' ds.length c'] w (Gives w (toL (dotV (nums es) (nums ds) es.length))) := by
  obtain ⟨i0, hi0, hz0, hz1, hz2⟩ := info_parts Try.info3
  obtain ⟨N, hN⟩ : ∃ N : Nat, N = 256 := ⟨_, rfl⟩
  have n0 : N ≤ 256 := by omega
  have n1 : 256 ≤ N := by omega
  have HN := Lib.hid hN
  have H := Lib.hid h
  have H' := Lib.hid h'
  have HP := Lib.hid hp
  have HQ := Lib.hid hq
  have t1 : ((es.length : Int) != ds.length) = false := by rw [bne_eq_false_iff_eq]; omega
  have t2 : ((es.length : Int) == 0) = false := by rw [beq_eq_false_iff_ne]; omega
  have m0 : ds.length ≤ es.length := by omega
  have m1 : es.length ≤ ds.length := by omega
  clear hN h h' hp hq hl
  go_enter Try.func34, Try.ntmps34
  go_wp2_with (first
    | (go_at_call 47; (first | (with_reducible refine (allMay_yes _ _ _ es _ H.out hn HP.out).mono ?_) | (with_reducible refine (allMay_yes _ _ _ ds _ (H'.out.drewN _) (by omega) HQ.out).mono ?_)); rintro e w' ⟨rfl, n, rfl⟩)
    | (at_make; refine wpList_make_full _ rfl _ _ 22 rfl w.heap.size 3 i0 (.int .i64 0) 1 Try.underlying22 hi0 hz0 hz1 _ _ _ _ N rfl rfl (by omega) (by omega) (by rw [hz2]; omega) (by unfold maxLen; omega) (Nat.le_refl _) ?_; intro w1 hown hgrow; rw [made_ints] at hown; have HO := Lib.hid hown; clear hown; have HG := Lib.hid hgrow; clear hgrow))
  have hst : Holds w N w.heap.size N (dotV (nums es) (nums ds) 0) w1 := by
    have hb : Below w.heap.size w w1 := (below_drewN (Below.refl _ _) _).grown HG.out (Nat.le_refl _) (by simp)
    have e := HN.out
    subst e
    exact ⟨zeroL, HO.out, zero_poly, vec_zero, hb⟩
  have HST := Lib.hid hst
  clear hst HO HG
  go_loopw [31] (fun i wj => ∃ k : Nat, k ≤ es.length ∧ i = .int .i64 k ∧ Holds w N w.heap.size N (dotV (nums es) (nums ds) k) wj) (fun i _ => es.length - (intOf i).toNat)
  case atStart => exact ⟨0, by omega, rfl, HST.out⟩
  case round =>
    obtain ⟨k, hk, rfl, hh⟩ := hrel
    have HH := Lib.hid hh
    clear hh HST
    by_cases hlt : k < es.length
    · have hltd : k < ds.length := by omega
      obtain ⟨⟨a, e, hab, ha⟩, _⟩ := (H.out.below HH.out.bel) k hlt
      subst e
      obtain ⟨⟨a', e, hab', ha'⟩, _⟩ := (H'.out.below HH.out.bel) k hltd
      subst e
      have hstep : dotV (nums es) (nums ds) (k + 1) = vAdd (dotV (nums es) (nums ds) k) (vTimes (vec es[k].l) (vec ds[k].l)) := by
        show vAdd _ (vTimes (vec ((nums es).getD k [])) (vec ((nums ds).getD k []))) = _
        rw [nums_at es hlt, nums_at ds hltd]
      have FE := Lib.hid (H.out k hlt).2
      have FD := Lib.hid (H'.out k hltd).2
      have PE := Lib.hid (all_at HP.out hlt)
      have PD := Lib.hid (all_at HQ.out hltd)
      have ST := Lib.hid hstep
      clear hstep
      generalize es[k].l = le at ha FE PE ST
      generalize es[k].A = Ae at ha FE
      generalize es[k].c = ce at ha
      generalize ds[k].l = ld at ha' FD PD ST
      generalize ds[k].A = Ad at ha' FD
      generalize ds[k].c = cd at ha'
      go_wp2_with (go_at_call 50; refine (addProduct_any w wr N w.heap.size N ce cd _ Ae Ad le ld HH.out HN.out FE.out FD.out PE.out PD.out).mono ?_; rintro e w' ⟨rfl, hh⟩; have HH' := Lib.hid hh; clear hh)
      go_roundw
      case rel => exact ⟨k + 1, by omega, by go_num, by rw [ST.out]; exact HH'.out⟩
      case measure => simp [intOf]; omega
    · go_wp2
      go_ret
      have e : k = es.length := by omega
      subst e
      exact HH.out.gives

theorem pDot_any (A A' : Option Addr) (c c' : Nat) (es ds : List Ent) (w : World) (h : HasL w w.heap.size A es) (h' : HasL w w.heap.size A' ds) (hn : es.length ≤ 300) (hm : ds.length ≤ 300) :
    Calls Try.prog 34 #[.slice A es.length c, .slice A' ds.length c'] w (Res w (dotL (nums es) (nums ds))) := by
  have nil : ∀ {e w'}, NilPost w e w' → Res w [] e w' := fun h => ⟨none, 0, h.1, World.ownsRow_nil _ _ _ _, h.2⟩
  by_cases hd : (nums es).length = (nums ds).length ∧ 0 < (nums es).length ∧ AllPoly (nums es) ∧ AllPoly (nums ds)
  · rw [dot_yes hd]
    obtain ⟨d1, d2, d3, d4⟩ := hd
    rw [nums_len, nums_len] at d1
    rw [nums_len] at d2
    rw [nums_len]
    exact (pDot_yes A A' c c' es ds w h h' d1 d2 hn d3 d4).mono fun _ _ h => h.res
  · rw [dot_no hd]
    by_cases hl : es.length = ds.length
    · by_cases h0 : es.length = 0
      · exact (pDot_len A A' c c' _ _ w hn hm (.inr h0)).mono fun _ _ h => nil h
      · refine (pDot_bad A A' c c' es ds w h h' hl (by omega) hn ?_).mono fun _ _ h => nil h
        rintro ⟨g1, g2⟩
        exact hd ⟨by rw [nums_len, nums_len]; exact hl, by rw [nums_len]; omega, g1, g2⟩
    · exact (pDot_len A A' c c' _ _ w hn hm (.inl hl)).mono fun _ _ h => nil h

theorem dot_one (l m : List Int) : dotL [l] [m] = two vTimes l m := by
  have hall : ∀ x : List Int, AllPoly [x] ↔ IsPoly x := by
    intro x
    refine ⟨fun h => h 0 (by simp), fun h k hk => ?_⟩
    have : k = 0 := by simp at hk; omega
    subst this
    exact h
  by_cases h : IsPoly l ∧ IsPoly m
  · rw [two_yes h.1 h.2, dot_yes (ps := [l]) (qs := [m]) ⟨rfl, Nat.zero_lt_succ _, (hall l).mpr h.1, (hall m).mpr h.2⟩]
    refine toL_same fun p _ => ?_
    show oV p + vTimes (vec l) (vec m) p = _
    unfold oV
    grind
  · rw [two_no h, dot_no]
    rintro ⟨_, _, g1, g2⟩
    exact h ⟨(hall l).mp g1, (hall m).mp g2⟩

set_option maxRecDepth 100000 in
set_option maxHeartbeats 1000000 in
theorem pTimes_any (A A' : Option Addr) (c c' : Nat) (l m : List Int) (w : World) (h : Has w w.heap.size A l) (h' : Has w w.heap.size A' m) :
    Calls Try.prog 17 #[.slice A l.length c, .slice A' m.length c'] w (Res w (two vTimes l m)) := by
  have b1 : Below w.heap.size w (w.alloc (.cells #[.slice A l.length c] 22)) := (Below.refl _ _).alloc (Nat.le_refl _) _
  have hs : (w.alloc (.cells #[.slice A l.length c] 22)).heap.size = w.heap.size + 1 := by simp
  have b2 : Below (w.alloc (.cells #[.slice A l.length c] 22)).heap.size (w.alloc (.cells #[.slice A l.length c] 22)) ((w.alloc (.cells #[.slice A l.length c] 22)).alloc (.cells #[.slice A' m.length c'] 22)) := (Below.refl _ _).alloc (Nat.le_refl _) _
  have E1 := Lib.hid ((hasL_one (c1 := c) h).next b2)
  have e2 := hasL_one (c1 := c') (has_next h' b1)
  rw [hs] at e2
  have E2 := Lib.hid e2
  have BB := Lib.hid (b1.trans (b2.mono b1.size))
  clear h h' b1 hs b2 e2
  go_enter Try.func17, Try.ntmps17
  go_wp2_with fail
  refine (pDot_any (some ⟨w.heap.size, 0, none⟩) (some ⟨w.heap.size + 1, 0, none⟩) 1 1 [⟨A, c, l⟩] [⟨A', c', m⟩] _ E1.out E2.out (by simp) (by simp)).mono ?_
  rw [show dotL (nums [⟨A, c, l⟩]) (nums [⟨A', c', m⟩]) = two vTimes l m from dot_one l m]
  rintro e w' ⟨A1, c1, rfl, ho, hb⟩
  have HO := Lib.hid (own_down ho BB.out.size)
  have HB := Lib.hid (BB.out.trans (hb.mono BB.out.size))
  clear ho hb E1 E2 BB
  go_wp2
  go_ret
  exact ⟨A1, c1, rfl, HO.out, HB.out⟩

theorem norm_as {x v : Int} (hv : v = norm x) (w : World) :
    Calls Try.prog 48 #[.int .i64 x] w fun e w' => e = .returned (.int .i64 v) ∧ w = w' := by
  rw [hv]; exact norm_any x w

set_option maxRecDepth 100000 in
set_option maxHeartbeats 2000000 in
theorem pNorm_yes (A : Option Addr) (c : Nat) (es : List Ent) (w : World) (h : HasL w w.heap.size A es) (hn : es.length ≤ 300) (hp : AllPoly (nums es)) :
    Calls Try.prog 28 #[.slice A es.length c] w fun e w' => e = .returned (.int .i64 (nAll (nums es) es.length)) ∧ ∃ n, w' = w.drewN n := by
  have H := Lib.hid h
  have HP := Lib.hid hp
  clear h hp
  go_enter Try.func28, Try.ntmps28
  go_wp2_with (go_at_call 47; refine (allMay_yes _ _ _ es _ H.out hn HP.out).mono ?_; rintro e w' ⟨rfl, n0, rfl⟩)
  go_loopw [3, 13] (fun v i wr => ∃ k n : Nat, k ≤ es.length ∧ i = .int .i64 k ∧ v = .int .i64 (nAll (nums es) k) ∧ wr = w.drewN n) (fun _ i _ => es.length - (intOf i).toNat)
  case atStart => exact ⟨0, n0, Nat.zero_le _, rfl, rfl, rfl⟩
  case round =>
    obtain ⟨k, n, hk, rfl, rfl, rfl⟩ := hrel
    by_cases hlt : k < es.length
    · obtain ⟨⟨a, e, _, ha⟩, hf⟩ := (H.out.drewN n) k hlt
      subst e
      have pe := all_at HP.out hlt
      have hv : vec ((nums es).getD k []) = vec es[k].l := by rw [nums_at es hlt]
      have hpo : ∀ j, nAt (nums es) k (j + 1) = max (nAt (nums es) k j) (nv (vec es[k].l j)) := fun j => by rw [← nAt_step, hv]
      have hz0 := nAt_zero (nums es) k
      have hz1 : nAll (nums es) (k + 1) = nAt (nums es) k 256 := rfl
      have HF := Lib.hid hf
      have PE := Lib.hid pe
      have HPO := Lib.hid hpo
      have HZ1 := Lib.hid hz1
      have HZ0 := Lib.hid hz0
      clear hf pe hv hpo hz1 hz0
      generalize es[k].l = le at ha HF PE HPO
      generalize es[k].A = Ae at ha HF
      generalize es[k].c = ce at ha
      have l0 : le.length ≤ 256 := by rw [PE.out.1]; exact Nat.le_refl _
      have l1 : 256 ≤ le.length := by rw [PE.out.1]; exact Nat.le_refl _
      go_wp2
      go_loopw [3, 19] (fun v i wr => ∃ j n : Nat, j ≤ le.length ∧ i = .int .i64 j ∧ v = .int .i64 (nAt (nums es) k j) ∧ wr = w.drewN n) (fun _ i _ => le.length - (intOf i).toNat)
      case atStart => exact ⟨0, n, Nat.zero_le _, rfl, by rw [HZ0.out], rfl⟩
      case round =>
        obtain ⟨j, n2, hj, rfl, rfl, rfl⟩ := hrel
        by_cases hjl : j < le.length
        · have bj : decide ((j : Int) < (le.length : Int)) = true := by rw [decide_eq_true_iff]; omega
          obtain ⟨b, rfl, _, hb⟩ := HF.out j (by omega)
          have hx : nv (vec le j) = norm (le.getD j 0) := nv_phi _
          have hs := HPO.out j
          rw [hx] at hs
          obtain ⟨v0, v1⟩ := nAt_bd (nums es) k j
          generalize le.getD j 0 = X at hb hs
          have HS := Lib.hid hs
          clear hx hs
          generalize nAt (nums es) k j = V0 at v0 v1 HS
          have x0 := norm_lo X
          have x1 := norm_hi X
          obtain ⟨Y, hY⟩ : ∃ Y, Y = norm X := ⟨_, rfl⟩
          rw [← hY] at x0 x1 HS
          have HY := Lib.hid hY
          clear hY
          have ca : (w.drewN n2).cell? (a.add k) = some (.slice (some b) le.length ce) := ha
          have cb : (w.drewN n2).cell? (b.add j) = some (.int .i64 X) := hb
          go_wp2_with (go_at_call 48; refine (norm_as HY.out _).mono ?_; rintro e w' ⟨rfl, rfl⟩)
          all_goals
            go_roundw
            case rel => exact ⟨j + 1, n2, by omega, by go_num, by rw [HS.out]; congr 1; omega, rfl⟩
            case measure => simp [intOf]; omega
        · have bj : decide ((j : Int) < (le.length : Int)) = false := by rw [decide_eq_false_iff_not]; omega
          have e : j = 256 := by omega
          subst e
          go_wp2
          go_roundw
          case rel => exact ⟨k + 1, n2, by omega, by go_num, by rw [HZ1.out], rfl⟩
          case measure => simp [intOf]; omega
    · go_wp2
      go_ret
      have e : k = es.length := by omega
      subst e
      exact ⟨rfl, n, rfl⟩

set_option maxRecDepth 100000 in
set_option maxHeartbeats 400000 in
theorem pNorm_no (A : Option Addr) (c : Nat) (es : List Ent) (w : World) (h : HasL w w.heap.size A es) (hn : es.length ≤ 300) (hp : ¬ AllPoly (nums es)) :
    Calls Try.prog 28 #[.slice A es.length c] w fun e w' => e = .returned (.int .i64 (-1)) ∧ ∃ n, w' = w.drewN n := by
  have H := Lib.hid h
  have HP := Lib.hid hp
  clear h hp
  go_enter Try.func28, Try.ntmps28
  go_wp2_with (go_at_call 47; refine (allMay_no _ _ _ es _ H.out hn HP.out).mono ?_; rintro e w' ⟨rfl, n, rfl⟩)
  go_ret
  exact ⟨rfl, n, rfl⟩
end Go.Proofs.Ytneopnlklhcopaa
