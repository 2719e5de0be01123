/- Contracts: what is told of any lists, by the document. -/
import Derived.Test.YtneopnlklhcopaaTab
namespace Go.Proofs.Ytneopnlklhcopaa
open Go.RowKit Slices Go.Proofs.Ytneopnlklhcopaa.Ring

theorem refNorm_as {x v : Int} (hv : v = norm x) (w : World) :
    Calls Try.prog 49 #[.int .i64 x] w fun e w' => e = .returned (.int .i64 v) ∧ w = w' := by
  rw [hv]; exact refNorm_any x w
theorem tab_b {w w' : World} (t : Hid (Tab w)) (b : Hid (Below w.heap.size w w')) : Hid (Tab w') := t.out.next b.out
theorem tab_d0 {w : World} {n : Nat} (t : Hid (Tab w)) : Hid (Tab (w.drewN n)) := t.out.drewN n
theorem tab_d {w w' : World} {n : Nat} (t : Hid (Tab w)) (b : Hid (Below w.heap.size w w')) : Hid (Tab (w'.drewN n)) := (t.out.next b.out).drewN n

theorem refAdd_res (A A' : Option Addr) (c c' : Nat) (l m : List Int) (w : World) (h : Has w w.heap.size A l) (h' : Has w w.heap.size A' m) (hl : l.length ≤ 300) (hm : m.length ≤ 300) :
    Calls Try.prog 19 #[.slice A l.length c, .slice A' m.length c'] w (Res w (two vAdd l m)) := by
  by_cases hp : IsPoly l ∧ IsPoly m
  · rw [two_yes hp.1 hp.2]; exact (refAdd_yes A A' c c' l m w h h' hp.1 hp.2).mono fun _ _ h => h.res
  · rw [two_no hp]; exact (refAdd_no A A' c c' l m w h h' (big hl) (big hm) hp).mono fun _ _ h => res_nil h.1 h.2
theorem refSub_res (A A' : Option Addr) (c c' : Nat) (l m : List Int) (w : World) (h : Has w w.heap.size A l) (h' : Has w w.heap.size A' m) (hl : l.length ≤ 300) (hm : m.length ≤ 300) :
    Calls Try.prog 20 #[.slice A l.length c, .slice A' m.length c'] w (Res w (two vSub l m)) := by
  by_cases hp : IsPoly l ∧ IsPoly m
  · rw [two_yes hp.1 hp.2]; exact (refSub_yes A A' c c' l m w h h' hp.1 hp.2).mono fun _ _ h => h.res
  · rw [two_no hp]; exact (refSub_no A A' c c' l m w h h' (big hl) (big hm) hp).mono fun _ _ h => res_nil h.1 h.2
theorem refTimes_res (A A' : Option Addr) (c c' : Nat) (l m : List Int) (w : World) (h : Has w w.heap.size A l) (h' : Has w w.heap.size A' m) (hl : l.length ≤ 300) (hm : m.length ≤ 300) :
    Calls Try.prog 23 #[.slice A l.length c, .slice A' m.length c'] w (Res w (two vTimes l m)) := by
  by_cases hp : IsPoly l ∧ IsPoly m
  · rw [two_yes hp.1 hp.2]; exact (refTimes_yes A A' c c' l m w h h' hp.1 hp.2).mono fun _ _ h => h.res
  · rw [two_no hp]; exact (refTimes_no A A' c c' l m w h h' (big hl) (big hm) hp).mono fun _ _ h => res_nil h.1 h.2
theorem refOver_res (A : Option Addr) (c : Nat) (l : List Int) (w : World) (h : Has w w.heap.size A l) (hl : l.length ≤ 300) :
    Calls Try.prog 21 #[.slice A l.length c] w (Res w (one vOver l)) := by
  by_cases hp : IsPoly l
  · rw [one_yes hp]; exact (refOver_yes A c l w h hp).mono fun _ _ h => h.res
  · rw [one_no hp]; exact (refOver_no A c l w h (big hl) hp).mono fun _ _ h => res_nil h.1 h.2
theorem refBack_res (A : Option Addr) (c : Nat) (l : List Int) (w : World) (h : Has w w.heap.size A l) (hl : l.length ≤ 300) :
    Calls Try.prog 22 #[.slice A l.length c] w (Res w (one vBack l)) := by
  by_cases hp : IsPoly l
  · rw [one_yes hp]; exact (refBack_yes A c l w h hp).mono fun _ _ h => h.res
  · rw [one_no hp]; exact (refBack_no A c l w h (big hl) hp).mono fun _ _ h => res_nil h.1 h.2
theorem refMay_any (A : Option Addr) (c : Nat) (l : List Int) (w : World) (h : Has w w.heap.size A l) (hl : l.length ≤ 300) :
    Calls Try.prog 25 #[.slice A l.length c] w fun e w' => e = .returned (.bool (mayB l)) ∧ ∃ n, w' = w.drewN n := by
  by_cases hp : IsPoly l
  · rw [mayB_yes hp]; exact may_yes A c _ l w h hp
  · rw [mayB_no hp]; exact may_no A c _ l w h (big hl) hp

/-- what stands behind the first i polys and k numbers of the next -/
def nAt (ps : List (List Int)) (i k : Nat) : Int := max (nAll ps i) (nTo (vec (ps.getD i [])) k)
theorem nAt_zero (ps : List (List Int)) (i : Nat) : nAt ps i 0 = nAll ps i := by
  have := nAll_lo ps i
  show max (nAll ps i) 0 = _
  omega
theorem nAt_step (ps : List (List Int)) (i k : Nat) : max (nAt ps i k) (nv (vec (ps.getD i []) k)) = nAt ps i (k + 1) := by
  show max (max _ _) _ = max _ (max _ _)
  omega
theorem nAt_bd (ps : List (List Int)) (i k : Nat) : 0 ≤ nAt ps i k ∧ nAt ps i k ≤ 4190208 := by
  have a := nAll_lo ps i
  have b := nAll_hi ps i
  have c := nTo_lo (vec (ps.getD i [])) k
  have d := nTo_hi (vec (ps.getD i [])) k
  unfold nAt
  omega

set_option maxRecDepth 100000 in
set_option maxHeartbeats 2000000 in
theorem refNorm_yes (A : Option Addr) (c : Nat) (es : List Ent) (w : World) (h : HasL w w.heap.size A es) (hn : es.length ≤ 300) (hp : AllPoly (nums es)) :
    Calls Try.prog 29 #[.slice A es.length c] w fun e w' => e = .returned (.int .i64 (nAll (nums es) es.length)) ∧ ∃ n, w' = w.drewN n := by
  have H := Lib.hid h
  have HP := Lib.hid hp
  clear h hp
  go_enter Try.func29, Try.ntmps29
  go_wp2
  go_loopw [3, 4] (fun v i wr => ∃ k n : Nat, k ≤ es.length ∧ i = .int .i64 k ∧ v = .int .i64 (nAll (nums es) k) ∧ wr = w.drewN n) (fun _ i _ => es.length - (intOf i).toNat)
  case atStart => exact ⟨0, 0, Nat.zero_le _, rfl, rfl, rfl⟩
  case round =>
    obtain ⟨k, n, hk, rfl, rfl, rfl⟩ := hrel
    by_cases hlt : k < es.length
    · obtain ⟨⟨a, e, _, ha⟩, hf⟩ := (H.out.drewN n) k hlt
      subst e
      have pe := all_at HP.out hlt
      have hv : vec ((nums es).getD k []) = vec es[k].l := by rw [nums_at es hlt]
      have hpo : ∀ j, nAt (nums es) k (j + 1) = max (nAt (nums es) k j) (nv (vec es[k].l j)) := fun j => by rw [← nAt_step, hv]
      have hz0 := nAt_zero (nums es) k
      have hz1 : nAll (nums es) (k + 1) = nAt (nums es) k 256 := rfl
      have HF := Lib.hid hf
      have PE := Lib.hid pe
      have HPO := Lib.hid hpo
      have HZ1 := Lib.hid hz1
      have HZ0 := Lib.hid hz0
      clear hf pe hv hpo hz1 hz0
      generalize es[k].l = le at ha HF PE HPO
      generalize es[k].A = Ae at ha HF
      generalize es[k].c = ce at ha
      have l0 : le.length ≤ 256 := by rw [PE.out.1]; exact Nat.le_refl _
      have l1 : 256 ≤ le.length := by rw [PE.out.1]; exact Nat.le_refl _
      go_wp2_with (go_at_call 25; refine (may_yes _ _ _ le _ HF.out PE.out).mono ?_; rintro e w' ⟨rfl, n', rfl⟩)
      go_loopw [3, 5] (fun v i wr => ∃ j n : Nat, j ≤ 256 ∧ i = .int .i64 j ∧ v = .int .i64 (nAt (nums es) k j) ∧ wr = w.drewN n) (fun _ i _ => 256 - (intOf i).toNat)
      case atStart => exact ⟨0, n + n', Nat.zero_le _, rfl, by rw [HZ0.out], rfl⟩
      case round =>
        obtain ⟨j, n2, hj, rfl, rfl, rfl⟩ := hrel
        by_cases hjl : j < 256
        · have bj : decide ((j : Int) < 256) = true := by rw [decide_eq_true_iff]; omega
          obtain ⟨b, rfl, _, hb⟩ := HF.out j (by omega)
          have hx : nv (vec le j) = norm (le.getD j 0) := nv_phi _
          have hs := HPO.out j
          rw [hx] at hs
          obtain ⟨v0, v1⟩ := nAt_bd (nums es) k j
          generalize le.getD j 0 = X at hb hs
          have HS := Lib.hid hs
          clear hx hs
          generalize nAt (nums es) k j = V0 at v0 v1 HS
          have x0 := norm_lo X
          have x1 := norm_hi X
          obtain ⟨Y, hY⟩ : ∃ Y, Y = norm X := ⟨_, rfl⟩
          rw [← hY] at x0 x1 HS
          have HY := Lib.hid hY
          clear hY
          have ca : (w.drewN n2).cell? (a.add k) = some (.slice (some b) le.length ce) := ha
          have cb : (w.drewN n2).cell? (b.add j) = some (.int .i64 X) := hb
          go_wp2_with (go_at_call 49; refine (refNorm_as HY.out _).mono ?_; rintro e w' ⟨rfl, rfl⟩)
          all_goals
            go_roundw
            case rel => exact ⟨j + 1, n2, by omega, by go_num, by rw [HS.out]; congr 1; omega, rfl⟩
            case measure => simp [intOf]; omega
        · have bj : decide ((j : Int) < 256) = false := by rw [decide_eq_false_iff_not]; omega
          have e : j = 256 := by omega
          subst e
          go_wp2
          go_roundw
          case rel => exact ⟨k + 1, n2, by omega, by go_num, by rw [HZ1.out], rfl⟩
          case measure => simp [intOf]; omega
    · go_wp2
      go_ret
      have e : k = es.length := by omega
      subst e
      exact ⟨rfl, n, rfl⟩

set_option maxRecDepth 100000 in
set_option maxHeartbeats 2000000 in
theorem refNorm_no (A : Option Addr) (c : Nat) (es : List Ent) (w : World) (h : HasL w w.heap.size A es) (hn : es.length ≤ 300) (hl : ∀ i (h : i < es.length), es[i].l.length ≤ 300) (hp : ¬ AllPoly (nums es)) :
    Calls Try.prog 29 #[.slice A es.length c] w fun e w' => e = .returned (.int .i64 (-1)) ∧ ∃ n, w' = w.drewN n := by
  obtain ⟨q, hq, hb⟩ := all_not hp
  have H := Lib.hid h
  have HB := Lib.hid hb
  have HL := Lib.hid hl
  clear h hp hb hl
  go_enter Try.func29, Try.ntmps29
  go_wp2
  go_loopw [3, 4] (fun v i wr => ∃ k n : Nat, ∃ V0 : Int, k ≤ q ∧ i = .int .i64 k ∧ v = .int .i64 V0 ∧ 0 ≤ V0 ∧ V0 ≤ 4190208 ∧ wr = w.drewN n) (fun _ i _ => es.length - (intOf i).toNat)
  case atStart => exact ⟨0, 0, 0, Nat.zero_le _, rfl, rfl, by omega, by omega, rfl⟩
  case round =>
    obtain ⟨k, n, V0, hk, rfl, rfl, v0, v1, rfl⟩ := hrel
    have hlt : k < es.length := by omega
    obtain ⟨⟨a, e, _, ha⟩, hf⟩ := (H.out.drewN n) k hlt
    subst e
    have HF := Lib.hid hf
    have hle := HL.out k hlt
    clear hf
    by_cases hx : IsPoly es[k].l
    · have hne : k ≠ q := fun e => by subst e; exact HB.out hx
      have hk' : k + 1 ≤ q := by omega
      have PE := Lib.hid hx
      clear hne hx HB
      generalize es[k].l = le at ha HF PE hle
      generalize es[k].A = Ae at ha HF
      generalize es[k].c = ce at ha
      have l1 : 256 ≤ le.length := by rw [PE.out.1]; exact Nat.le_refl _
      go_wp2_with (go_at_call 25; refine (may_yes _ _ _ le _ HF.out PE.out).mono ?_; rintro e w' ⟨rfl, n', rfl⟩)
      go_loopw [3, 5] (fun v i wr => ∃ j n : Nat, ∃ V0 : Int, j ≤ 256 ∧ i = .int .i64 j ∧ v = .int .i64 V0 ∧ 0 ≤ V0 ∧ V0 ≤ 4190208 ∧ wr = w.drewN n) (fun _ i _ => 256 - (intOf i).toNat)
      case atStart => exact ⟨0, n + n', V0, Nat.zero_le _, rfl, rfl, v0, v1, rfl⟩
      case round =>
        obtain ⟨j, n2, V1, hj, rfl, rfl, u0, u1, rfl⟩ := hrel
        by_cases hjl : j < 256
        · have bj : decide ((j : Int) < 256) = true := by rw [decide_eq_true_iff]; omega
          obtain ⟨b, rfl, _, hb⟩ := HF.out j (by omega)
          generalize le.getD j 0 = X at hb
          have x0 := norm_lo X
          have x1 := norm_hi X
          obtain ⟨Y, hY⟩ : ∃ Y, Y = norm X := ⟨_, rfl⟩
          rw [← hY] at x0 x1
          have HY := Lib.hid hY
          clear hY
          have ca : (w.drewN n2).cell? (a.add k) = some (.slice (some b) le.length ce) := ha
          have cb : (w.drewN n2).cell? (b.add j) = some (.int .i64 X) := hb
          go_wp2_with (go_at_call 49; refine (refNorm_as HY.out _).mono ?_; rintro e w' ⟨rfl, rfl⟩)
          all_goals
            go_roundw
            case rel => exact ⟨j + 1, n2, _, by omega, by go_num, rfl, by omega, by omega, rfl⟩
            case measure => simp [intOf]; omega
        · have bj : decide ((j : Int) < 256) = false := by rw [decide_eq_false_iff_not]; omega
          have e : j = 256 := by omega
          subst e
          go_wp2
          go_roundw
          case rel => exact ⟨k + 1, n2, V1, hk', by go_num, rfl, u0, u1, rfl⟩
          case measure => simp [intOf]; omega
    · have PE := Lib.hid hx
      clear hx HB
      generalize es[k].l = le at ha HF PE hle
      generalize es[k].A = Ae at ha HF
      generalize es[k].c = ce at ha
      go_wp2_with (go_at_call 25; refine (may_no _ _ _ le _ HF.out (big hle) PE.out).mono ?_; rintro e w' ⟨rfl, n', rfl⟩)
      go_ret
      exact ⟨rfl, n + n', rfl⟩
theorem refNorm_res (A : Option Addr) (c : Nat) (es : List Ent) (w : World) (h : HasL w w.heap.size A es) (hn : es.length ≤ 300) (hl : ∀ i (h : i < es.length), es[i].l.length ≤ 300) :
    Calls Try.prog 29 #[.slice A es.length c] w fun e w' => e = .returned (.int .i64 (normL (nums es))) ∧ ∃ n, w' = w.drewN n := by
  by_cases hp : AllPoly (nums es)
  · rw [normL_yes hp, nums_len]; exact refNorm_yes A c es w h hn hp
  · rw [normL_no hp]; exact refNorm_no A c es w h hn hl hp
end Go.Proofs.Ytneopnlklhcopaa
