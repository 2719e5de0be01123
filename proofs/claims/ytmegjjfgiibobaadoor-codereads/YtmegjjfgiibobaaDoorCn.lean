/- Contract: whether two lists are alike. -/
import Derived.Test.YtmegjjfgiibobaaDoorCm
namespace Go.Proofs.YtmegjjfgiibobaaDoor
open Go.RowKit Slices Go.Proofs.YtmegjjfgiibobaaDoor.Bit

theorem list_eq {l l' : List Int} (hn : l.length = l'.length) (h : ∀ j, j < l.length → l.getD j 0 = l'.getD j 0) : l = l' := by
  apply List.ext_getElem hn
  intro i h1 h2
  have e := h i h1
  rw [List.getD_eq_getElem?_getD, List.getElem?_eq_getElem h1, List.getD_eq_getElem?_getD, List.getElem?_eq_getElem h2] at e
  exact e
set_option maxRecDepth 100000 in
set_option maxHeartbeats 2000000 in
theorem sameB_any (A A' : Option Addr) (c c' n n' B : Nat) (l l' : List Int) (w : World) (hn : n = l.length) (hn' : n' = l'.length) (hl : n ≤ 4611686018427387904) (hl' : n' ≤ 4611686018427387904) (h : Has .u8 w B A l) (h' : Has .u8 w B A' l') :
    Calls Tryd.prog 13 #[.slice A n c, .slice A' n' c'] w fun e w' => e = .returned (.bool (decide (l = l'))) ∧ ∃ k, w' = w.drewN k := by
  by_cases hne : n = n'
  · subst hne
    obtain ⟨R, hR⟩ : ∃ R, R = decide (l = l') := ⟨_, rfl⟩
    rw [← hR]
    have HR := Lib.hid hR
    have HN := Lib.hid hn
    have HN' := Lib.hid hn'
    have H := Lib.hid h
    have H' := Lib.hid h'
    clear hR hn hn' h h'
    go_enter Tryd.func13, Tryd.ntmps13
    go_wp2
    go_loopw [5] (fun i wr => ∃ k d : Nat, k ≤ n ∧ i = .int .i64 k ∧ (∀ j, j < k → l.getD j 0 = l'.getD j 0) ∧ wr = w.drewN d) (fun i _ => n - (intOf i).toNat)
    case atStart => exact ⟨0, 0, Nat.zero_le _, rfl, fun j hj => by omega, rfl⟩
    case round =>
      obtain ⟨k, d, hk, rfl, hq, rfl⟩ := hrel
      have HQ := Lib.hid hq
      clear hq
      by_cases hlt : k < n
      · obtain ⟨a, rfl, _, ha⟩ := H.out k (by rw [← HN.out]; exact hlt)
        obtain ⟨a', rfl, _, ha'⟩ := H'.out k (by rw [← HN'.out]; exact hlt)
        by_cases hx : l.getD k 0 = l'.getD k 0
        · have HX := Lib.hid hx
          rw [← hx] at ha'
          clear hx
          go_wp2
          go_quiet (fail)
          go_wp2
          go_roundw
          case rel => exact ⟨k + 1, d + nq, by omega, by go_num, fun j hj => by
            by_cases e : j = k
            · subst e; exact HX.out
            · exact HQ.out j (by omega), rfl⟩
          case measure => simp [intOf]; omega
        · have HX : Hid (R = false) := by
            show R = false
            rw [HR.out, decide_eq_false_iff_not]
            intro e
            exact hx (by rw [e])
          have t1 : (l.getD k 0 == l'.getD k 0) = false := beq_eq_false_iff_ne.2 hx
          generalize l.getD k 0 = x at ha t1
          generalize l'.getD k 0 = y at ha' t1
          clear hx
          go_wp2
          go_quiet (fail)
          go_wp2
          go_ret
          exact ⟨by rw [HX.out]; rfl, d + nq, by rw [World.drewN_drewN]⟩
      · have HX : Hid (R = true) := by
          show R = true
          rw [HR.out, decide_eq_true_iff]
          have e1 := HN.out
          have e2 := HN'.out
          exact list_eq (by omega) fun j hj => HQ.out j (by omega)
        go_wp2
        go_ret
        exact ⟨by rw [HX.out]; rfl, d, rfl⟩
  · have e : decide (l = l') = false := by
      rw [decide_eq_false_iff_not]
      intro e
      exact hne (by rw [hn, hn', e])
    rw [e]
    have t1 : ((n : Int) == (n' : Int)) = false := by rw [beq_eq_false_iff_ne]; omega
    clear hne hn hn' e h h'
    go_enter Tryd.func13, Tryd.ntmps13
    go_wp2
    go_ret
    exact ⟨rfl, 0, rfl⟩
theorem sameB_dec (A A' : Option Addr) (c c' n n' : Nat) (l l' : List Int) (w : World) (hn : n = l.length) (hn' : n' = l'.length) (hl : n ≤ 4611686018427387904) (hl' : n' ≤ 4611686018427387904) (h : Has .u8 w w.heap.size A l) (h' : Has .u8 w w.heap.size A' l') :
    Calls Tryd.prog 13 #[.slice A n c, .slice A' n' c'] w fun e w' => e = .returned (.bool (decide (l = l'))) ∧ Below w.heap.size w w' :=
  (sameB_any A A' c c' n n' w.heap.size l l' w hn hn' hl hl' h h').mono fun e w' ⟨h1, n, h2⟩ => ⟨h1, by rw [h2]; exact below_drewN (Below.refl _ _) n⟩
end Go.Proofs.YtmegjjfgiibobaaDoor
