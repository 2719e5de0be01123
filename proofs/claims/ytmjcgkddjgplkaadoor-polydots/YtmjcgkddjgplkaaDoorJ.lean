/- Contracts: of what is no poly the document tells none. -/
import Derived.Test.YtmjcgkddjgplkaaDoorA
namespace Go.Proofs.YtmjcgkddjgplkaaDoor
open Go.RowKit Slices Go.Proofs.YtmjcgkddjgplkaaDoor.Ring

set_option maxRecDepth 100000 in
set_option maxHeartbeats 400000 in
theorem refOver_no (A : Option Addr) (c : Nat) (l : List Int) (w : World) (h : Has w w.heap.size A l) (hn : l.length ≤ 4611686018427387904) (hp : ¬ IsPoly l) :
    Calls Tryd.prog 21 #[.slice A l.length c] w fun e w' => e = .returned (.slice none 0 0) ∧ ∃ n, w' = w.drewN n := by
  have HP := Lib.hid hp
  have H := Lib.hid h
  clear h hp
  go_enter Tryd.func21, Tryd.ntmps21
  go_wp2_with (go_at_call 25; refine (may_no _ _ _ _ _ H.out hn HP.out).mono ?_; rintro e w' ⟨rfl, n, rfl⟩)
  go_ret
  exact ⟨rfl, _, rfl⟩

set_option maxRecDepth 100000 in
set_option maxHeartbeats 400000 in
theorem refBack_no (A : Option Addr) (c : Nat) (l : List Int) (w : World) (h : Has w w.heap.size A l) (hn : l.length ≤ 4611686018427387904) (hp : ¬ IsPoly l) :
    Calls Tryd.prog 22 #[.slice A l.length c] w fun e w' => e = .returned (.slice none 0 0) ∧ ∃ n, w' = w.drewN n := by
  have HP := Lib.hid hp
  have H := Lib.hid h
  clear h hp
  go_enter Tryd.func22, Tryd.ntmps22
  go_wp2_with (go_at_call 25; refine (may_no _ _ _ _ _ H.out hn HP.out).mono ?_; rintro e w' ⟨rfl, n, rfl⟩)
  go_ret
  exact ⟨rfl, _, rfl⟩

set_option maxRecDepth 100000 in
set_option maxHeartbeats 400000 in
theorem refAdd_no1 (A A' : Option Addr) (c c' : Nat) (l m : List Int) (w : World) (h : Has w w.heap.size A l) (hn : l.length ≤ 4611686018427387904) (hp : ¬ IsPoly l) :
    Calls Tryd.prog 19 #[.slice A l.length c, .slice A' m.length c'] w fun e w' => e = .returned (.slice none 0 0) ∧ ∃ n, w' = w.drewN n := by
  have HP := Lib.hid hp
  have H := Lib.hid h
  clear h hp
  go_enter Tryd.func19, Tryd.ntmps19
  go_wp2
  refine wp_loop_rounds 1 ?_
  rw [rounds_succ]
  go_wp2_with (go_at_call 25; refine (may_no _ _ _ l _ H.out hn HP.out).mono ?_; rintro e w' ⟨rfl, n, rfl⟩)
  go_ret
  exact ⟨rfl, _, rfl⟩

set_option maxRecDepth 100000 in
set_option maxHeartbeats 400000 in
theorem refAdd_no2 (A A' : Option Addr) (c c' : Nat) (l m : List Int) (w : World) (h : Has w w.heap.size A l) (h' : Has w w.heap.size A' m) (hn : m.length ≤ 4611686018427387904) (hp : IsPoly l) (hq : ¬ IsPoly m) :
    Calls Tryd.prog 19 #[.slice A l.length c, .slice A' m.length c'] w fun e w' => e = .returned (.slice none 0 0) ∧ ∃ n, w' = w.drewN n := by
  have HP := Lib.hid hp
  have H := Lib.hid h
  have HQ := Lib.hid hq
  have H' := Lib.hid h'
  clear h hp hq h'
  go_enter Tryd.func19, Tryd.ntmps19
  go_wp2
  refine wp_loop_rounds 1 ?_
  rw [rounds_succ]
  go_wp2_with (go_at_call 25; (first | (with_reducible refine (may_yes _ _ _ l _ H.out HP.out).mono ?_) | (with_reducible refine (may_no _ _ _ m _ (H'.out.drewN _) hn HQ.out).mono ?_)); rintro e w' ⟨rfl, n, rfl⟩)
  go_ret
  exact ⟨rfl, _, rfl⟩

theorem refAdd_no (A A' : Option Addr) (c c' : Nat) (l m : List Int) (w : World) (h : Has w w.heap.size A l) (h' : Has w w.heap.size A' m) (hl : l.length ≤ 4611686018427387904) (hn : m.length ≤ 4611686018427387904) (hp : ¬ (IsPoly l ∧ IsPoly m)) :
    Calls Tryd.prog 19 #[.slice A l.length c, .slice A' m.length c'] w fun e w' => e = .returned (.slice none 0 0) ∧ ∃ n, w' = w.drewN n := by
  by_cases h1 : IsPoly l
  · exact refAdd_no2 A A' c c' l m w h h' hn h1 fun h2 => hp ⟨h1, h2⟩
  · exact refAdd_no1 A A' c c' l m w h hl h1

set_option maxRecDepth 100000 in
set_option maxHeartbeats 400000 in
theorem refSub_no1 (A A' : Option Addr) (c c' : Nat) (l m : List Int) (w : World) (h : Has w w.heap.size A l) (hn : l.length ≤ 4611686018427387904) (hp : ¬ IsPoly l) :
    Calls Tryd.prog 20 #[.slice A l.length c, .slice A' m.length c'] w fun e w' => e = .returned (.slice none 0 0) ∧ ∃ n, w' = w.drewN n := by
  have HP := Lib.hid hp
  have H := Lib.hid h
  clear h hp
  go_enter Tryd.func20, Tryd.ntmps20
  go_wp2_with (go_at_call 25; refine (may_no _ _ _ l _ H.out hn HP.out).mono ?_; rintro e w' ⟨rfl, n, rfl⟩)
  go_ret
  exact ⟨rfl, _, rfl⟩

set_option maxRecDepth 100000 in
set_option maxHeartbeats 400000 in
theorem refSub_no2 (A A' : Option Addr) (c c' : Nat) (l m : List Int) (w : World) (h : Has w w.heap.size A l) (h' : Has w w.heap.size A' m) (hn : m.length ≤ 4611686018427387904) (hp : IsPoly l) (hq : ¬ IsPoly m) :
    Calls Tryd.prog 20 #[.slice A l.length c, .slice A' m.length c'] w fun e w' => e = .returned (.slice none 0 0) ∧ ∃ n, w' = w.drewN n := by
  have HP := Lib.hid hp
  have H := Lib.hid h
  have HQ := Lib.hid hq
  have H' := Lib.hid h'
  clear h hp hq h'
  go_enter Tryd.func20, Tryd.ntmps20
  go_wp2_with (go_at_call 25; (first | (with_reducible refine (may_yes _ _ _ l _ H.out HP.out).mono ?_) | (with_reducible refine (may_no _ _ _ m _ (H'.out.drewN _) hn HQ.out).mono ?_)); rintro e w' ⟨rfl, n, rfl⟩)
  go_ret
  exact ⟨rfl, _, rfl⟩

theorem refSub_no (A A' : Option Addr) (c c' : Nat) (l m : List Int) (w : World) (h : Has w w.heap.size A l) (h' : Has w w.heap.size A' m) (hl : l.length ≤ 4611686018427387904) (hn : m.length ≤ 4611686018427387904) (hp : ¬ (IsPoly l ∧ IsPoly m)) :
    Calls Tryd.prog 20 #[.slice A l.length c, .slice A' m.length c'] w fun e w' => e = .returned (.slice none 0 0) ∧ ∃ n, w' = w.drewN n := by
  by_cases h1 : IsPoly l
  · exact refSub_no2 A A' c c' l m w h h' hn h1 fun h2 => hp ⟨h1, h2⟩
  · exact refSub_no1 A A' c c' l m w h hl h1

set_option maxRecDepth 100000 in
set_option maxHeartbeats 400000 in
theorem refTimes_no1 (A A' : Option Addr) (c c' : Nat) (l m : List Int) (w : World) (h : Has w w.heap.size A l) (hn : l.length ≤ 4611686018427387904) (hp : ¬ IsPoly l) :
    Calls Tryd.prog 23 #[.slice A l.length c, .slice A' m.length c'] w fun e w' => e = .returned (.slice none 0 0) ∧ ∃ n, w' = w.drewN n := by
  have HP := Lib.hid hp
  have H := Lib.hid h
  clear h hp
  go_enter Tryd.func23, Tryd.ntmps23
  go_wp2_with (go_at_call 25; refine (may_no _ _ _ l _ H.out hn HP.out).mono ?_; rintro e w' ⟨rfl, n, rfl⟩)
  go_ret
  exact ⟨rfl, _, rfl⟩

set_option maxRecDepth 100000 in
set_option maxHeartbeats 400000 in
theorem refTimes_no2 (A A' : Option Addr) (c c' : Nat) (l m : List Int) (w : World) (h : Has w w.heap.size A l) (h' : Has w w.heap.size A' m) (hn : m.length ≤ 4611686018427387904) (hp : IsPoly l) (hq : ¬ IsPoly m) :
    Calls Tryd.prog 23 #[.slice A l.length c, .slice A' m.length c'] w fun e w' => e = .returned (.slice none 0 0) ∧ ∃ n, w' = w.drewN n := by
  have HP := Lib.hid hp
  have H := Lib.hid h
  have HQ := Lib.hid hq
  have H' := Lib.hid h'
  clear h hp hq h'
  go_enter Tryd.func23, Tryd.ntmps23
  go_wp2_with (go_at_call 25; (first | (with_reducible refine (may_yes _ _ _ l _ H.out HP.out).mono ?_) | (with_reducible refine (may_no _ _ _ m _ (H'.out.drewN _) hn HQ.out).mono ?_)); rintro e w' ⟨rfl, n, rfl⟩)
  go_ret
  exact ⟨rfl, _, rfl⟩

theorem refTimes_no (A A' : Option Addr) (c c' : Nat) (l m : List Int) (w : World) (h : Has w w.heap.size A l) (h' : Has w w.heap.size A' m) (hl : l.length ≤ 4611686018427387904) (hn : m.length ≤ 4611686018427387904) (hp : ¬ (IsPoly l ∧ IsPoly m)) :
    Calls Tryd.prog 23 #[.slice A l.length c, .slice A' m.length c'] w fun e w' => e = .returned (.slice none 0 0) ∧ ∃ n, w' = w.drewN n := by
  by_cases h1 : IsPoly l
  · exact refTimes_no2 A A' c c' l m w h h' hn h1 fun h2 => hp ⟨h1, h2⟩
  · exact refTimes_no1 A A' c c' l m w h hl h1

end Go.Proofs.YtmjcgkddjgplkaaDoor
