/- Contracts: which keys may be, by the program's own code. -/
import Derived.Test.YtealebeacddbbaaDoorOa
import Derived.Test.YtealebeacddbbaaDoorKc
namespace Go.Proofs.YtealebeacddbbaaDoor
open Go.RowKit Slices

theorem among_any (x m : Int) (w : World) : Calls Tryd.prog 12 #[.int .i64 x, .int .i64 m] w fun e w' => e = .returned (.bool (decide (1 ≤ x ∧ x ≤ m))) ∧ w = w' := by
  by_cases h : 1 ≤ x ∧ x ≤ m
  · rw [decide_eq_true h]
    obtain ⟨h1, h2⟩ := h
    go_enter Tryd.func12, Tryd.ntmps12
    go_wp2
    go_ret
    exact ⟨rfl, rfl⟩
  · rw [decide_eq_false h]
    by_cases h1 : 1 ≤ x
    · have h2 : m < x := by omega
      clear h
      go_enter Tryd.func12, Tryd.ntmps12
      go_wp2
      go_ret
      exact ⟨ret_bool (decide_eq_false (by omega)), rfl⟩
    · have h2 : x < 1 := by omega
      clear h h1
      go_enter Tryd.func12, Tryd.ntmps12
      go_wp2
      go_ret
      exact ⟨rfl, rfl⟩
/-- a version's seed and time are as its state asks -/
def StandV (v : Ver) : Prop := 1 ≤ v.st ∧ v.st ≤ 4 ∧ (v.st = 4 → v.seed.length = 0) ∧ (v.st ≠ 4 → v.seed.length = 64) ∧ (v.st = 3 → 1 ≤ v.due ∧ v.due ≤ 1099511627776) ∧ (v.st ≠ 3 → v.due = 0)
theorem stand_may {v : Ver} {i : Nat} : MayV v i ↔ v.n = (i : Int) + 1 ∧ StandV v :=
  ⟨fun h => ⟨h.n, h.st1, h.st4, h.gone, h.live, h.doom, h.rest⟩, fun ⟨h0, h1, h2, h3, h4, h5, h6⟩ => ⟨h0, h1, h2, h3, h4, h5, h6⟩⟩
/-- a truth is told that is a statement's -/
def Truth (p : Prop) (w : World) (e : Ending) (w' : World) : Prop := ∃ b : Bool, e = .returned (.bool b) ∧ (b = true ↔ p) ∧ Below w.heap.size w w'
set_option maxRecDepth 100000 in
set_option maxHeartbeats 4000000 in
theorem mayStand_any (v : Ver) (S : Option Addr × Nat) (w : World) :
    Calls Tryd.prog 13 #[.agg #[.int .i64 v.n, .int .i64 v.st, .int .i64 v.due, .slice S.1 v.seed.length S.2]] w (Truth (StandV v) w) := by
  obtain ⟨x0, x1, x2, l⟩ := v
  obtain ⟨A, c⟩ := S
  have HB : Hid (Below w.heap.size w (w.alloc (.cells #[.int .i64 x0, .int .i64 x1, .int .i64 x2, .slice A l.length c] 30))) := (Below.refl _ _).alloc (Nat.le_refl _) _
  obtain ⟨p, hp⟩ : ∃ p : Prop, p = StandV ⟨x0, x1, x2, l⟩ := ⟨_, rfl⟩
  rw [← hp]
  unfold StandV at hp
  simp only at hp HB ⊢
  obtain ⟨n, hn⟩ : ∃ n, n = l.length := ⟨_, rfl⟩
  rw [← hn] at hp HB ⊢
  clear hn
  have HP := Lib.hid hp
  clear hp
  by_cases h3 : x1 = 3
  · subst h3
    go_enter Tryd.func13, Tryd.ntmps13
    go_wp2
    all_goals
      go_ret
      refine ⟨_, rfl, ?_, (Below.refl _ _).alloc (Nat.le_refl _) _⟩
      rw [HP.out]
      simp <;> omega
  by_cases h4 : x1 = 4
  · subst h4
    clear h3
    go_enter Tryd.func13, Tryd.ntmps13
    go_wp2
    all_goals
      go_ret
      refine ⟨_, rfl, ?_, (Below.refl _ _).alloc (Nat.le_refl _) _⟩
      rw [HP.out]
      simp <;> omega
  by_cases h1 : x1 = 1
  · subst h1
    clear h3 h4
    go_enter Tryd.func13, Tryd.ntmps13
    go_wp2
    all_goals
      go_ret
      refine ⟨_, rfl, ?_, (Below.refl _ _).alloc (Nat.le_refl _) _⟩
      rw [HP.out]
      simp <;> omega
  by_cases h2 : x1 = 2
  · subst h2
    clear h3 h4 h1
    go_enter Tryd.func13, Tryd.ntmps13
    go_wp2
    all_goals
      go_ret
      refine ⟨_, rfl, ?_, (Below.refl _ _).alloc (Nat.le_refl _) _⟩
      rw [HP.out]
      simp <;> omega
  have t1 : (x1 == 1) = false := beq_eq_false_iff_ne.2 h1
  have t2 : (x1 == 2) = false := beq_eq_false_iff_ne.2 h2
  have t3 : (x1 == 3) = false := beq_eq_false_iff_ne.2 h3
  have t4 : (x1 == 4) = false := beq_eq_false_iff_ne.2 h4
  have HN : Hid (¬ p) := by
    show ¬ p
    rw [HP.out]
    omega
  clear h1 h2 h3 h4
  go_enter Tryd.func13, Tryd.ntmps13
  go_wp2
  go_ret
  exact ⟨_, rfl, ⟨fun e => (by cases e), fun q => absurd q HN.out⟩, HB.out⟩

set_option maxRecDepth 100000 in
set_option maxHeartbeats 8000000 in
theorem pMay_any (K : KeyV) (A : Option Addr) (c : Nat) (w : World) (h : RdK w A c K) (few : FewK K) :
    Calls Tryd.prog 5 #[keyVal K A c] w fun e w' => e = .returned (.bool (mayKC K)) ∧ Below w.heap.size w w' := by
  have hk := keyAt_new h
  have HB : Hid (Below w.heap.size w (w.alloc (.cells #[.int .i64 K.id, .int .i64 K.ten, .int .i64 K.set, .slice A K.vs.length c] 24))) := (Below.refl _ _).alloc (Nat.le_refl _) _
  have HK := Lib.hid hk
  have few1 := few.1
  clear h hk few
  unfold keyVal
  obtain ⟨n, hn⟩ : ∃ n, n = K.vs.length := ⟨_, rfl⟩
  have HN := Lib.hid hn
  have x0 := HK.out.c0
  have x1 := HK.out.c1
  have x2 := HK.out.c2
  have x3 := HK.out.c3
  rw [← hn] at few1 x3 HB HK x0 x1 x2 ⊢
  clear hn
  go_enter Tryd.func5, Tryd.ntmps5
  go_wp2_with fail
  generalize hW : World.alloc _ _ = W at HB HK x0 x1 x2 x3 ⊢
  clear hW
  refine (among_any _ _ W).mono ?_
  by_cases c1 : 1 ≤ K.id ∧ K.id ≤ 6
  case neg =>
    rw [decide_eq_false c1]
    rintro e w' ⟨rfl, rfl⟩
    have HM : Hid (mayKC K = false) := mayKC_no fun q => c1 ⟨q.id1, q.id6⟩
    clear c1
    go_wp2
    go_ret
    exact ⟨ret_bool HM.out.symm, HB.out⟩
  rw [decide_eq_true c1]
  rintro e w' ⟨rfl, rfl⟩
  have C1 := Lib.hid c1
  clear c1
  go_wp2_with fail
  refine (among_any _ _ W).mono ?_
  by_cases c2 : 1 ≤ K.ten ∧ K.ten ≤ 8
  case neg =>
    rw [decide_eq_false c2]
    rintro e w' ⟨rfl, rfl⟩
    have HM : Hid (mayKC K = false) := mayKC_no fun q => c2 ⟨q.ten1, q.ten8⟩
    clear c2
    go_wp2
    go_ret
    exact ⟨ret_bool HM.out.symm, HB.out⟩
  rw [decide_eq_true c2]
  rintro e w' ⟨rfl, rfl⟩
  have C2 := Lib.hid c2
  clear c2
  go_wp2_with fail
  refine (among_any _ _ W).mono ?_
  by_cases c3 : 1 ≤ K.set ∧ K.set ≤ 3
  case neg =>
    rw [decide_eq_false c3]
    rintro e w' ⟨rfl, rfl⟩
    have HM : Hid (mayKC K = false) := mayKC_no fun q => c3 ⟨q.set1, q.set3⟩
    clear c3
    go_wp2
    go_ret
    exact ⟨ret_bool HM.out.symm, HB.out⟩
  rw [decide_eq_true c3]
  rintro e w' ⟨rfl, rfl⟩
  have C3 := Lib.hid c3
  clear c3
  go_wp2_with fail
  refine (among_any _ _ W).mono ?_
  by_cases c4 : 1 ≤ (n : Int) ∧ (n : Int) ≤ 5
  case neg =>
    rw [decide_eq_false c4]
    rintro e w' ⟨rfl, rfl⟩
    have HM : Hid (mayKC K = false) := mayKC_no fun q => c4 ⟨by have := q.some; have := HN.out; omega, by have := q.few; have := HN.out; omega⟩
    clear c4
    go_wp2
    go_ret
    exact ⟨ret_bool HM.out.symm, HB.out⟩
  rw [decide_eq_true c4]
  rintro e w' ⟨rfl, rfl⟩
  have C4 := Lib.hid c4
  clear c4
  clear x0 x1 x2
  go_wp2
  clear x3
  go_loopw [31] (fun i wr => ∃ k : Nat, k ≤ n ∧ i = .int .i64 k ∧ Below W.heap.size W wr ∧ ∀ j, j < k → MayV (vg K.vs j) j) (fun i _ => n - (intOf i).toNat)
  case atStart => exact ⟨0, by omega, rfl, Below.refl _ _, fun j hj => by cases hj⟩
  case round =>
    obtain ⟨k, hk, rfl, hb, hr⟩ := hrel
    have HKK := Lib.hid (HK.out.next hb)
    have HW := Lib.hid hb
    have HR := Lib.hid hr
    have y3 := HKK.out.c3
    rw [← HN.out] at y3
    clear hb hr
    by_cases hlt : k < n
    · obtain ⟨a, S, cs, rfl, hab, a0, a1, a2, a3, hs⟩ := cells4 HKK.out.rd.has (k := k) (by rw [← HN.out]; exact hlt)
      clear hab hs
      obtain ⟨v, hv⟩ : ∃ v, v = vg K.vs k := ⟨_, rfl⟩
      rw [← hv] at a0 a1 a2 a3
      have HV := Lib.hid hv
      clear hv
      have hcall := fun V => mayStand_any v (S, cs) V
      have B5 : Hid (Below w.heap.size w (wr.alloc (.cells #[.int .i64 v.n, .int .i64 v.st, .int .i64 v.due, .slice S v.seed.length cs] 30))) := (below_next HB.out HW.out).alloc (below_next HB.out HW.out).size _
      have B6 : Hid (Below W.heap.size W (wr.alloc (.cells #[.int .i64 v.n, .int .i64 v.st, .int .i64 v.due, .slice S v.seed.length cs] 30))) := HW.out.alloc HW.out.size _
      have HNO : Hid (¬ MayV v k → mayKC K = false) := fun hb => mayKC_no fun q => hb (by rw [HV.out]; exact q.each k (by rw [← HN.out]; exact hlt))
      by_cases e0 : v.n = (k : Int) + 1
      case neg =>
        have t : (v.n != (k : Int) + 1) = true := by rw [bne_iff_ne]; exact e0
        have HM := Lib.hid (HNO.out fun q => e0 q.n)
        clear e0 hcall
        go_wp2
        go_ret
        exact ⟨ret_bool HM.out.symm, B5.out⟩
      have t : (v.n != (k : Int) + 1) = false := by rw [e0]; simp
      have E0 := Lib.hid e0
      clear e0
      go_wp2_with fail
      refine (hcall _).mono ?_
      rintro e w' ⟨b, rfl, hb, hb'⟩
      have BB := Lib.hid hb
      have B7 := Lib.hid hb'
      clear hb hb' hcall a0 a1 a2 a3 t
      cases b with
      | false =>
        have HM := Lib.hid (HNO.out fun q => by have := BB.out.2 (stand_may.1 q).2; cases this)
        go_wp2
        go_ret
        exact ⟨ret_bool HM.out.symm, below_next B5.out B7.out⟩
      | true =>
        have HM : Hid (MayV (vg K.vs k) k) := by
          show MayV _ _
          rw [← HV.out]
          exact stand_may.2 ⟨E0.out, BB.out.1 rfl⟩
        go_wp2
        go_roundw
        case rel => exact ⟨k + 1, by omega, by go_num, below_next B6.out B7.out, fun j hj => by
          by_cases e : j = k
          · rw [e]; exact HM.out
          · exact HR.out j (by omega)⟩
        case measure => simp [intOf]; omega
    · obtain rfl : k = n := by omega
      have HM : Hid (mayKC K = true) := mayKC_yes ⟨C1.out.1, C1.out.2, C2.out.1, C2.out.2, C3.out.1, C3.out.2, by have := C4.out.1; have := HN.out; omega, by have := C4.out.2; have := HN.out; omega, fun i hi => HR.out i (by rw [HN.out]; exact hi)⟩
      go_wp2
      go_ret
      exact ⟨ret_bool HM.out.symm, below_next HB.out HW.out⟩
end Go.Proofs.YtealebeacddbbaaDoor
