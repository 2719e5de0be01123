/- Contracts: why one more is refused; one more, by the program's own code. -/
import Derived.Test.YtjpmglnhnfnmnaaDoorOb
import Derived.Test.YtjpmglnhnfnmnaaDoorOd
namespace Go.Proofs.YtjpmglnhnfnmnaaDoor
open Go.RowKit Slices

theorem kid_all {l : List Ten} {p : Int} {nm : ByteArray} : KidN l l.length p nm ↔ ChildT l p nm := Iff.rfl

theorem unless_yes2 {b : Bool} (c : Int) (x : ByteArray) (w : World) (hb : b = true) :
    Calls Tryd.prog 45 #[.bool b, .int .i64 c, .string x] w fun e w' => e = .returned .nilIface ∧ w = w' := by
  rw [hb]
  exact unless_yes c _ w
theorem unless_no2 {b : Bool} (c : Int) (x : ByteArray) (w : World) (hb : b = false) :
    Calls Tryd.prog 45 #[.bool b, .int .i64 c, .string x] w fun e w' => e = .returned (.iface 49 (.pointer (some ⟨w.heap.size, 0, none⟩))) ∧ w' = w.alloc (.cells #[.int .i64 c, .string x] 54) := by
  rw [hb]
  exact unless_no c x w
/-- what refuses one more -/
def RefRes (w : World) (l : List Ten) (p : Int) (nm : ByteArray) (e : Ending) (w' : World) : Prop :=
  ∃ k v, AddT l p nm k ∧ e = .returned v ∧ IsF k v w' ∧ Below w.heap.size w w'
set_option maxRecDepth 100000 in
set_option maxHeartbeats 4000000 in
theorem refusal_any (A : Option Addr) (n c : Nat) (l : List Ten) (p : Int) (nm : ByteArray) (w : World) (h : RdT w A n c l) (hs : nm.size ≤ 4000) :
    Calls Tryd.prog 34 #[.slice A n c, .int .i64 p, .string nm] w (RefRes w l p nm) := by
  have HN := Lib.hid h.len
  have H := Lib.hid h
  have few := h.few
  clear h
  by_cases m : MayT l
  · have HM := Lib.hid m
    have MC := Lib.hid (mayC_yes m)
    clear m
    by_cases ht : 1 ≤ p ∧ p ≤ (n : Int)
    · have HT := Lib.hid (decide_eq_true ht)
      have HT2 : Hid (1 ≤ p ∧ p ≤ (l.length : Int)) := by rw [← HN.out]; exact ht
      clear ht
      by_cases s1 : 1 ≤ nm.size ∧ nm.size ≤ 300
      · have HS := Lib.hid (decide_eq_true s1)
        have HS2 := Lib.hid s1
        clear s1
        by_cases kd : KidN l n p nm
        · have HK := Lib.hid (kidC_yes kd)
          have hk : Hid (AddT l p nm 13) := .twice HM.out HT2.out HS2.out (by rw [HN.out] at kd; exact kd)
          clear kd
          go_enter Tryd.func34, Tryd.ntmps34
          go_wp2_with fail
          refine (pMay_any A n c l w H.out).mono ?_
          rw [MC.out]
          rintro e w1 ⟨rfl, hb⟩
          have B1 := Lib.hid hb
          have R1 := Lib.hid (H.out.next hb)
          clear hb
          go_wp2_with fail
          refine (unless_yes2 _ _ _ (by first | rfl | exact decide_eq_true (by omega))).mono ?_
          rintro e w2 ⟨rfl, rfl⟩
          go_wp2_with fail
          refine (isThere_any A n c p w1 (by omega)).mono ?_
          rw [HT.out]
          rintro e w2 ⟨rfl, rfl⟩
          go_wp2_with fail
          refine (unless_yes2 _ _ _ (by first | rfl | exact decide_eq_true (by omega))).mono ?_
          rintro e w2 ⟨rfl, rfl⟩
          go_wp2_with fail
          refine (mayName_any nm w1 hs).mono ?_
          rw [HS.out]
          rintro e w2 ⟨rfl, rfl⟩
          go_wp2_with fail
          refine (unless_yes2 _ _ _ (by first | rfl | exact decide_eq_true (by omega))).mono ?_
          rintro e w2 ⟨rfl, rfl⟩
          go_wp2_with fail
          refine (hasChild_any A n c l p nm w1 R1.out.has (by rw [← HN.out]; omega) (by rw [← HN.out]; omega)).mono ?_
          rw [HK.out]
          rintro e w3 ⟨rfl, hb⟩
          have B3 := Lib.hid (below_next B1.out hb)
          clear hb
          go_wp2_with fail
          refine (unless_no2 _ _ _ (by first | rfl | exact decide_eq_false (by omega))).mono ?_
          rintro e w2 ⟨rfl, rfl⟩
          go_wp2
          go_ret
          exact ⟨13, _, hk.out, rfl, isF_new (by decide), B3.out.alloc B3.out.size _⟩
        · have HK := Lib.hid (kidC_no kd)
          have KD : Hid (¬ ChildT l p nm) := by rw [HN.out] at kd; exact kd
          clear kd
          by_cases h8 : 8 ≤ n
          · have hk : Hid (AddT l p nm 12) := .full HM.out HT2.out HS2.out KD.out (by rw [← HN.out]; exact h8)
            go_enter Tryd.func34, Tryd.ntmps34
            go_wp2_with fail
            refine (pMay_any A n c l w H.out).mono ?_
            rw [MC.out]
            rintro e w1 ⟨rfl, hb⟩
            have B1 := Lib.hid hb
            have R1 := Lib.hid (H.out.next hb)
            clear hb
            go_wp2_with fail
            refine (unless_yes2 _ _ _ (by first | rfl | exact decide_eq_true (by omega))).mono ?_
            rintro e w2 ⟨rfl, rfl⟩
            go_wp2_with fail
            refine (isThere_any A n c p w1 (by omega)).mono ?_
            rw [HT.out]
            rintro e w2 ⟨rfl, rfl⟩
            go_wp2_with fail
            refine (unless_yes2 _ _ _ (by first | rfl | exact decide_eq_true (by omega))).mono ?_
            rintro e w2 ⟨rfl, rfl⟩
            go_wp2_with fail
            refine (mayName_any nm w1 hs).mono ?_
            rw [HS.out]
            rintro e w2 ⟨rfl, rfl⟩
            go_wp2_with fail
            refine (unless_yes2 _ _ _ (by first | rfl | exact decide_eq_true (by omega))).mono ?_
            rintro e w2 ⟨rfl, rfl⟩
            go_wp2_with fail
            refine (hasChild_any A n c l p nm w1 R1.out.has (by rw [← HN.out]; omega) (by rw [← HN.out]; omega)).mono ?_
            rw [HK.out]
            rintro e w3 ⟨rfl, hb⟩
            have B3 := Lib.hid (below_next B1.out hb)
            clear hb
            go_wp2_with fail
            refine (unless_yes2 _ _ _ (by first | rfl | exact decide_eq_true (by omega))).mono ?_
            rintro e w2 ⟨rfl, rfl⟩
            go_wp2_with fail
            refine (unless_no2 _ _ _ (by first | rfl | exact decide_eq_false (by omega))).mono ?_
            rintro e w2 ⟨rfl, rfl⟩
            go_wp2
            go_ret
            exact ⟨12, _, hk.out, rfl, isF_new (by decide), B3.out.alloc B3.out.size _⟩
          · have hk : Hid (AddT l p nm 0) := .yes HM.out HT2.out HS2.out KD.out (by rw [← HN.out]; omega)
            go_enter Tryd.func34, Tryd.ntmps34
            go_wp2_with fail
            refine (pMay_any A n c l w H.out).mono ?_
            rw [MC.out]
            rintro e w1 ⟨rfl, hb⟩
            have B1 := Lib.hid hb
            have R1 := Lib.hid (H.out.next hb)
            clear hb
            go_wp2_with fail
            refine (unless_yes2 _ _ _ (by first | rfl | exact decide_eq_true (by omega))).mono ?_
            rintro e w2 ⟨rfl, rfl⟩
            go_wp2_with fail
            refine (isThere_any A n c p w1 (by omega)).mono ?_
            rw [HT.out]
            rintro e w2 ⟨rfl, rfl⟩
            go_wp2_with fail
            refine (unless_yes2 _ _ _ (by first | rfl | exact decide_eq_true (by omega))).mono ?_
            rintro e w2 ⟨rfl, rfl⟩
            go_wp2_with fail
            refine (mayName_any nm w1 hs).mono ?_
            rw [HS.out]
            rintro e w2 ⟨rfl, rfl⟩
            go_wp2_with fail
            refine (unless_yes2 _ _ _ (by first | rfl | exact decide_eq_true (by omega))).mono ?_
            rintro e w2 ⟨rfl, rfl⟩
            go_wp2_with fail
            refine (hasChild_any A n c l p nm w1 R1.out.has (by rw [← HN.out]; omega) (by rw [← HN.out]; omega)).mono ?_
            rw [HK.out]
            rintro e w3 ⟨rfl, hb⟩
            have B3 := Lib.hid (below_next B1.out hb)
            clear hb
            go_wp2_with fail
            refine (unless_yes2 _ _ _ (by first | rfl | exact decide_eq_true (by omega))).mono ?_
            rintro e w2 ⟨rfl, rfl⟩
            go_wp2_with fail
            refine (unless_yes2 _ _ _ (by first | rfl | exact decide_eq_true (by omega))).mono ?_
            rintro e w2 ⟨rfl, rfl⟩
            go_wp2
            go_ret
            exact ⟨0, _, hk.out, rfl, isF_nil _, B3.out⟩
      · have HS := Lib.hid (decide_eq_false s1)
        have hk : Hid (AddT l p nm 2) := .name HM.out HT2.out s1
        clear s1
        go_enter Tryd.func34, Tryd.ntmps34
        go_wp2_with fail
        refine (pMay_any A n c l w H.out).mono ?_
        rw [MC.out]
        rintro e w1 ⟨rfl, hb⟩
        have B1 := Lib.hid hb
        have R1 := Lib.hid (H.out.next hb)
        clear hb
        go_wp2_with fail
        refine (unless_yes2 _ _ _ (by first | rfl | exact decide_eq_true (by omega))).mono ?_
        rintro e w2 ⟨rfl, rfl⟩
        go_wp2_with fail
        refine (isThere_any A n c p w1 (by omega)).mono ?_
        rw [HT.out]
        rintro e w2 ⟨rfl, rfl⟩
        go_wp2_with fail
        refine (unless_yes2 _ _ _ (by first | rfl | exact decide_eq_true (by omega))).mono ?_
        rintro e w2 ⟨rfl, rfl⟩
        go_wp2_with fail
        refine (mayName_any nm w1 hs).mono ?_
        rw [HS.out]
        rintro e w2 ⟨rfl, rfl⟩
        go_wp2_with fail
        refine (unless_no2 _ _ _ (by first | rfl | exact decide_eq_false (by omega))).mono ?_
        rintro e w2 ⟨rfl, rfl⟩
        go_wp2
        go_ret
        exact ⟨2, _, hk.out, rfl, isF_new (by decide), B1.out.alloc B1.out.size _⟩
    · have HT := Lib.hid (decide_eq_false ht)
      have hk : Hid (AddT l p nm 9) := .none HM.out (by rw [← HN.out]; exact ht)
      clear ht
      go_enter Tryd.func34, Tryd.ntmps34
      go_wp2_with fail
      refine (pMay_any A n c l w H.out).mono ?_
      rw [MC.out]
      rintro e w1 ⟨rfl, hb⟩
      have B1 := Lib.hid hb
      have R1 := Lib.hid (H.out.next hb)
      clear hb
      go_wp2_with fail
      refine (unless_yes2 _ _ _ (by first | rfl | exact decide_eq_true (by omega))).mono ?_
      rintro e w2 ⟨rfl, rfl⟩
      go_wp2_with fail
      refine (isThere_any A n c p w1 (by omega)).mono ?_
      rw [HT.out]
      rintro e w2 ⟨rfl, rfl⟩
      go_wp2_with fail
      refine (unless_no2 _ _ _ (by first | rfl | exact decide_eq_false (by omega))).mono ?_
      rintro e w2 ⟨rfl, rfl⟩
      go_wp2
      go_ret
      exact ⟨9, _, hk.out, rfl, isF_new (by decide), B1.out.alloc B1.out.size _⟩
  · have MC := Lib.hid (mayC_no m)
    have hk : Hid (AddT l p nm 2) := .arg m
    clear m
    go_enter Tryd.func34, Tryd.ntmps34
    go_wp2_with fail
    refine (pMay_any A n c l w H.out).mono ?_
    rw [MC.out]
    rintro e w1 ⟨rfl, hb⟩
    have B1 := Lib.hid hb
    have R1 := Lib.hid (H.out.next hb)
    clear hb
    go_wp2_with fail
    refine (unless_no2 _ _ _ (by first | rfl | exact decide_eq_false (by omega))).mono ?_
    rintro e w2 ⟨rfl, rfl⟩
    go_wp2
    go_ret
    exact ⟨2, _, hk.out, rfl, isF_new (by decide), B1.out.alloc B1.out.size _⟩

/-- what the program's own add tells, its errors not wrapped -/
def AddRaw (w : World) (l : List Ten) (p : Int) (nm : ByteArray) (e : Ending) (w' : World) : Prop :=
  ∃ k A' n' c' v, AddT l p nm k ∧ e = .returned (.tuple #[.slice A' n' c', .int .i64 (addN l k), v]) ∧ OwnT w' w.heap.size A' n' c' (addL l p nm k) ∧ IsF k v w' ∧ Below w.heap.size w w'
set_option maxRecDepth 100000 in
set_option maxHeartbeats 1000000 in
theorem add_any (A : Option Addr) (n c : Nat) (l : List Ten) (p : Int) (nm : ByteArray) (w : World) (h : RdT w A n c l) (hs : nm.size ≤ 4000) :
    Calls Tryd.prog 23 #[.slice A n c, .int .i64 p, .string nm] w (AddRaw w l p nm) := by
  have HN := Lib.hid h.len
  have H := Lib.hid h
  have few := h.few
  clear h
  go_enter Tryd.func23, Tryd.ntmps23
  go_wp2_with fail
  refine (refusal_any A n c l p nm w H.out hs).mono ?_
  rintro e w1 ⟨k, v, hk, rfl, hv, hb⟩
  have HK := Lib.hid hk
  have B1 := Lib.hid hb
  have HV := Lib.hid hv
  clear hk hb
  rcases hv with ⟨k0, rfl⟩ | ⟨k0, q, rfl, hq⟩
  · subst k0
    obtain ⟨t, ht⟩ : ∃ t : Ten, t = ⟨(n : Int) + 1, p, nm⟩ := ⟨_, rfl⟩
    have hc := concat_any (w1.heap.size + 1) w1.heap.size n c A l t ((w1.alloc (.cells #[.int .i64 ((n : Int) + 1), .int .i64 p, .string nm] 46)).alloc (.cells #[.slice A n c, .slice (some ⟨w1.heap.size, 0, none⟩) 1 1] 22)) (by simp) (by simp) (by simp)
      (H.out.next ((B1.out.alloc B1.out.size _).alloc (by have := B1.out.size; simp; omega) _)) (by subst ht; exact two_cells (by rw [heap_alloc_old _ _ (by simp)]; exact heap_alloc_new w1 _) (by simp; omega))
    have HC := Lib.hid hc
    have B2 : Hid (Below w.heap.size w ((w1.alloc (.cells #[.int .i64 ((n : Int) + 1), .int .i64 p, .string nm] 46)).alloc (.cells #[.slice A n c, .slice (some ⟨w1.heap.size, 0, none⟩) 1 1] 22))) := (B1.out.alloc B1.out.size _).alloc (by have := B1.out.size; simp; omega) _
    clear hc
    go_wp2_with (go_at_call 35; refine HC.out.mono ?_; rintro e w2 ⟨A', c', rfl, ho, hb⟩; have HO := Lib.hid ho; have HB := Lib.hid hb; clear ho hb)
    go_ret3
    have eL : l ++ [t] = addL l p nm 0 := by
      subst ht
      show _ = moreT l p nm
      unfold moreT
      rw [HN.out]
    have eN : addN l 0 = (n : Int) + 1 := by rw [HN.out]; rfl
    have hret : Ending.returned (.tuple #[.slice A' (n + 1) c', .int .i64 ((n : Int) + 1), .nilIface]) = .returned (.tuple #[.slice A' (n + 1) c', .int .i64 (addN l 0), .nilIface]) := by rw [eN]
    refine ⟨0, A', n + 1, c', .nilIface, HK.out, hret, ?_, isF_nil _, below_next B2.out HB.out⟩
    rw [← eL]
    exact ownT_mono HO.out (by have := B2.out.size; simp at this ⊢; omega)
  · go_wp2
    go_ret3
    have eN : addN l k = 0 := if_neg k0
    have eL : addL l p nm k = [] := if_neg k0
    have hret : Ending.returned (.tuple #[.slice none 0 0, .int .i64 0, .iface 49 (.pointer (some q))]) = .returned (.tuple #[.slice none 0 0, .int .i64 (addN l k), .iface 49 (.pointer (some q))]) := by rw [eN]
    exact ⟨k, none, 0, 0, _, HK.out, hret, by rw [eL]; exact ownT_nil _ _, HV.out, B1.out⟩
set_option maxRecDepth 100000 in
set_option maxHeartbeats 1000000 in
theorem pAdd_any (A : Option Addr) (n c : Nat) (l : List Ten) (p : Int) (nm : ByteArray) (w : World) (h : RdT w A n c l) (_hp : I64 p) (hs : nm.size ≤ 4000) :
    Calls Tryd.prog 8 #[.slice A n c, .int .i64 p, .string nm] w (AddTold w l p nm) := by
  have H := Lib.hid h
  clear h
  go_enter Tryd.func8, Tryd.ntmps8
  go_wp2_with fail
  refine (add_any A n c l p nm w H.out hs).mono ?_
  rintro e w1 ⟨k, A', n', c', v, hk, rfl, ho, hv, hb⟩
  have HK := Lib.hid hk
  have HO := Lib.hid ho
  have HV := Lib.hid hv
  have HB := Lib.hid hb
  clear hk ho hv hb
  go_wp2_with (go_at_call 24; refine (wrap_any _ k v w1 HV.out).mono ?_; rintro e w2 ⟨v', rfl, hv', hb'⟩; have HV2 := Lib.hid hv'; have HB2 := Lib.hid hb'; clear hv' hb')
  go_ret3
  exact ⟨k, A', n', c', v', HK.out, rfl, HO.out.next HB2.out, HV2.out, below_next HB.out HB2.out⟩
end Go.Proofs.YtjpmglnhnfnmnaaDoor
