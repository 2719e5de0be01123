/- Contracts: lists of lists that are alike, or great. -/
import Derived.Test.YtoigpehpgpogfaaDoorMf
namespace Go.Proofs.YtoigpehpgpogfaaDoor
open Go.RowKit Slices Go.Proofs.YtoigpehpgpogfaaDoor.Bit

theorem quiet_more {P : Program} {f : FuncId} {args : Array Value} {w : World} {n : Nat} {v : Value}
    (h : Calls P f args (w.drewN n) fun e w' => e = .returned v ∧ ∃ m, w' = (w.drewN n).drewN m) : Calls P f args (w.drewN n) fun e w'' => e = .returned v ∧ ∃ m, w'' = w.drewN m :=
  h.mono fun _ _ ⟨he, m, hm⟩ => ⟨he, n + m, by rw [hm, World.drewN_drewN]⟩
theorem same_alike (A A' : Option Addr) (c c' B n n' : Nat) (l l' : List Int) (w : World) (e : l = l') (hn : n = l.length) (hn' : n' = l'.length) (hl : l.length ≤ 4611686018427387904) (h : Has .i64 w B A l) (h' : Has .i64 w B A' l') :
    Calls Tryd.prog 19 #[.slice A n c, .slice A' n' c'] w fun e w' => e = .returned (.bool true) ∧ ∃ n, w' = w.drewN n := by
  subst e
  subst hn
  subst hn'
  exact same_true A A' c c' B l w hl h h'

set_option maxRecDepth 100000 in
set_option maxHeartbeats 1000000 in
theorem samePolys_true (A A' : Option Addr) (c c' B : Nat) (es ds : List Ent) (w : World) (h : HasL w B A es) (h' : HasL w B A' ds) (he : nums es = nums ds) (hn : es.length ≤ 4000) (hl : ∀ i (h : i < es.length), es[i].l.length ≤ 4000) :
    Calls Tryd.prog 34 #[.slice A es.length c, .slice A' ds.length c'] w fun e w' => e = .returned (.bool true) ∧ ∃ n, w' = w.drewN n := by
  have hlen : es.length = ds.length := by have := congrArg List.length he; rwa [nums_len, nums_len] at this
  have t1 : ((es.length : Int) != (ds.length : Int)) = false := by rw [bne_eq_false_iff_eq]; omega
  have l0 : es.length ≤ ds.length := by omega
  have l1 : ds.length ≤ es.length := by omega
  have H := Lib.hid h
  have H' := Lib.hid h'
  have HE := Lib.hid he
  have HL := Lib.hid hl
  clear h h' he hl hlen
  go_enter Tryd.func34, Tryd.ntmps34
  go_wp2
  go_loopw [5] (fun i wr => ∃ k n : Nat, k ≤ es.length ∧ i = .int .i64 k ∧ wr = w.drewN n) (fun i _ => es.length - (intOf i).toNat)
  case atStart => exact ⟨0, 0, by omega, rfl, rfl⟩
  case round =>
    obtain ⟨k, n, hk, rfl, hw⟩ := hrel
    have HW := Lib.hid hw
    by_cases hlt : k < es.length
    · have hltd : k < ds.length := by omega
      obtain ⟨⟨a, e, _, ha0⟩, hf⟩ := H.out k hlt
      subst e
      obtain ⟨⟨a', e, _, ha0'⟩, hf'⟩ := H'.out k hltd
      subst e
      have hk1 := nums_at es hlt
      have hk2 := nums_at ds hltd
      have hel : es[k].l = ds[k].l := by rw [← hk1, ← hk2, HE.out]
      have hll := HL.out k hlt
      have HEL := Lib.hid hel
      have ha : wr.cell? (a.add k) = some (.slice es[k].A es[k].l.length es[k].c) := by rw [hw]; exact ha0
      have ha' : wr.cell? (a'.add k) = some (.slice ds[k].A ds[k].l.length ds[k].c) := by rw [hw]; exact ha0'
      have HF : Hid (Has .i64 wr B es[k].A es[k].l) := by show Has _ _ _ _ _; rw [hw]; exact hf
      have HF' : Hid (Has .i64 wr B ds[k].A ds[k].l) := by show Has _ _ _ _ _; rw [hw]; exact hf'
      clear hk1 hk2 hel hf hf' ha0 ha0' hw
      generalize es[k].l = le at ha HF HEL hll
      generalize es[k].A = Ae at ha HF
      generalize es[k].c = ce at ha
      generalize ds[k].l = ld at ha' HF' HEL
      generalize ds[k].A = Ad at ha' HF'
      generalize ds[k].c = cd at ha'
      have q1 : (k : Int) < (es.length : Int) := by omega
      have q2 : (k : Int) < (ds.length : Int) := by omega
      have q3 : (0 : Int) ≤ (k : Int) := by omega
      go_wp2
      go_quiet ((go_at_call 19; exact quiet_more (same_alike Ae Ad ce cd B _ _ le ld _ HEL.out rfl rfl (by omega) (HF.out.drewN _) (HF'.out.drewN _))))
      go_wp2
      go_roundw
      case rel => exact ⟨k + 1, n + nq, by omega, by go_num, by rw [HW.out, World.drewN_drewN]⟩
      case measure => simp [intOf]; omega
    · clear hw
      go_wp2
      go_ret
      exact ⟨rfl, n, HW.out⟩

set_option maxRecDepth 100000 in
set_option maxHeartbeats 1000000 in
theorem great_no (A : Option Addr) (c B : Nat) (es : List Ent) (w : World) (h : HasL w B A es) (hn : es.length ≤ 10) (hl : ∀ i (h : i < es.length), es[i].l.length ≤ 300) :
    Calls Tryd.prog 26 #[.slice A es.length c] w fun e w' => e = .returned (.bool false) ∧ w = w' := by
  have H := Lib.hid h
  have HL := Lib.hid hl
  clear h hl
  go_enter Tryd.func26, Tryd.ntmps26
  go_wp2
  go_loopw [3] (fun i wr => ∃ k : Nat, k ≤ es.length ∧ i = .int .i64 k ∧ w = wr) (fun i _ => es.length - (intOf i).toNat)
  case atStart => exact ⟨0, by omega, rfl, rfl⟩
  case round =>
    obtain ⟨k, hk, rfl, rfl⟩ := hrel
    by_cases hlt : k < es.length
    · obtain ⟨⟨a, e, _, ha⟩, _⟩ := H.out k hlt
      subst e
      have hll := HL.out k hlt
      generalize es[k].l.length = n at ha hll
      generalize es[k].A = Ae at ha
      generalize es[k].c = ce at ha
      go_wp2
      go_roundw
      case rel => exact ⟨k + 1, by omega, by go_num, trivial⟩
      case measure => simp [intOf]; omega
    · have t : decide (10 < (es.length : Int)) = false := by rw [decide_eq_false_iff_not]; omega
      go_wp2
      go_ret
      exact ⟨rfl, rfl⟩
set_option maxRecDepth 100000 in
set_option maxHeartbeats 1000000 in
theorem great_yes (A : Option Addr) (c B : Nat) (es : List Ent) (w : World) (h : HasL w B A es) (hn : es.length ≤ 4611686018427387904) (hm : ∀ i (h : i < es.length), es[i].l.length ≤ maxLen) (hl : ¬ (es.length ≤ 10 ∧ ∀ i (h : i < es.length), es[i].l.length ≤ 300)) :
    Calls Tryd.prog 26 #[.slice A es.length c] w fun e w' => e = .returned (.bool true) ∧ w = w' := by
  by_cases h10 : es.length ≤ 10
  · obtain ⟨j, hj, hb⟩ : ∃ j, ∃ hj : j < es.length, 300 < es[j].l.length := by
      apply Classical.byContradiction
      intro g
      exact hl ⟨h10, fun i hi => by
        rcases Nat.lt_or_ge 300 es[i].l.length with q | q
        · exact absurd ⟨i, hi, q⟩ g
        · exact q⟩
    have H := Lib.hid h
    have HM := Lib.hid hm
    have HB := Lib.hid hb
    clear h hl hm hb
    go_enter Tryd.func26, Tryd.ntmps26
    go_wp2
    go_loopw [3] (fun i wr => ∃ k : Nat, k ≤ j ∧ i = .int .i64 k ∧ w = wr) (fun i _ => es.length - (intOf i).toNat)
    case atStart => exact ⟨0, by omega, rfl, rfl⟩
    case round =>
      obtain ⟨k, hk, rfl, rfl⟩ := hrel
      have hlt : k < es.length := by omega
      obtain ⟨⟨a, e, _, ha⟩, _⟩ := H.out k hlt
      subst e
      have hmm := HM.out k hlt
      unfold maxLen at hmm
      by_cases hx : 300 < es[k].l.length
      · generalize es[k].l.length = n at ha hx hmm
        generalize es[k].A = Ae at ha
        generalize es[k].c = ce at ha
        go_wp2
        go_ret
        exact ⟨rfl, rfl⟩
      · have hne : k ≠ j := fun e => by subst e; exact hx HB.out
        have hk' : k + 1 ≤ j := by omega
        clear hne
        generalize es[k].l.length = n at ha hx hmm
        generalize es[k].A = Ae at ha
        generalize es[k].c = ce at ha
        go_wp2
        go_roundw
        case rel => exact ⟨k + 1, by omega, by go_num, trivial⟩
        case measure => simp [intOf]; omega
  · clear hl h hm
    have t : decide ((es.length : Int) ≤ 10) = false := by rw [decide_eq_false_iff_not]; omega
    have t2 : decide (10 < (es.length : Int)) = true := by rw [decide_eq_true_iff]; omega
    go_enter Tryd.func26, Tryd.ntmps26
    go_wp2
    refine wp_loop_rounds 1 ?_
    rw [rounds_succ]
    go_wp2
    go_ret
    exact ⟨rfl, rfl⟩
end Go.Proofs.YtoigpehpgpogfaaDoor
