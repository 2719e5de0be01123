/- Contracts: of what is no poly the document tells none. -/
import Derived.Test.YtneopnlklhcopaaA
namespace Go.Proofs.Ytneopnlklhcopaa
open Go.RowKit Slices Go.Proofs.Ytneopnlklhcopaa.Ring

set_option maxRecDepth 100000 in
set_option maxHeartbeats 400000 in
theorem refOver_no (A : Option Addr) (c : Nat) (l : List Int) (w : World) (h : Has w w.heap.size A l) (hn : l.length ≤ 4611686018427387904) (hp : ¬ IsPoly l) :
    Calls Try.prog 21 #[.slice A l.length c] w fun e w' => e = .returned (.slice none 0 0) ∧ ∃ n, w' = w.drewN n := by
  have HP := Lib.hid hp
  have H := Lib.hid h
  clear h hp
  go_enter Try.func21, Try.ntmps21
  go_wp2_with (go_at_call 25; refine (may_no _ _ _ _ _ H.out hn HP.out).mono ?_; rintro e w' ⟨rfl, n, rfl⟩)
  go_ret
  exact ⟨rfl, _, rfl⟩

set_option maxRecDepth 100000 in
set_option maxHeartbeats 400000 in
theorem refBack_no (A : Option Addr) (c : Nat) (l : List Int) (w : World) (h : Has w w.heap.size A l) (hn : l.length ≤ 4611686018427387904) (hp : ¬ IsPoly l) :
    Calls Try.prog 22 #[.slice A l.length c] w fun e w' => e = .returned (.slice none 0 0) ∧ ∃ n, w' = w.drewN n := by
  have HP := Lib.hid hp
  have H := Lib.hid h
  clear h hp
  go_enter Try.func22, Try.ntmps22
  go_wp2_with (go_at_call 25; refine (may_no _ _ _ _ _ H.out hn HP.out).mono ?_; rintro e w' ⟨rfl, n, rfl⟩)
  go_ret
  exact ⟨rfl, _, rfl⟩

set_option maxRecDepth 100000 in
set_option maxHeartbeats 400000 in
theorem refAdd_no1 (A A' : Option Addr) (c c' : Nat) (l m : List Int) (w : World) (h : Has w w.heap.size A l) (hn : l.length ≤ 4611686018427387904) (hp : ¬ IsPoly l) :
    Calls Try.prog 19 #[.slice A l.length c, .slice A' m.length c'] w fun e w' => e = .returned (.slice none 0 0) ∧ ∃ n, w' = w.drewN n := by
  have HP := Lib.hid hp
  have H := Lib.hid h
  clear h hp
  go_enter Try.func19, Try.ntmps19
  go_wp2_with (go_at_call 25; refine (may_no _ _ _ l _ H.out hn HP.out).mono ?_; rintro e w' ⟨rfl, n, rfl⟩)
  go_ret
  exact ⟨rfl, _, rfl⟩

set_option maxRecDepth 100000 in
set_option maxHeartbeats 400000 in
theorem refAdd_no2 (A A' : Option Addr) (c c' : Nat) (l m : List Int) (w : World) (h : Has w w.heap.size A l) (h' : Has w w.heap.size A' m) (hn : m.length ≤ 4611686018427387904) (hp : IsPoly l) (hq : ¬ IsPoly m) :
    Calls Try.prog 19 #[.slice A l.length c, .slice A' m.length c'] w fun e w' => e = .returned (.slice none 0 0) ∧ ∃ n, w' = w.drewN n := by
  have HP := Lib.hid hp
  have H := Lib.hid h
  have HQ := Lib.hid hq
  have H' := Lib.hid h'
  clear h hp hq h'
  go_enter Try.func19, Try.ntmps19
  go_wp2_with (go_at_call 25; (first | (with_reducible refine (may_yes _ _ _ l _ H.out HP.out).mono ?_) | (with_reducible refine (may_no _ _ _ m _ (H'.out.drewN _) hn HQ.out).mono ?_)); rintro e w' ⟨rfl, n, rfl⟩)
  go_ret
  exact ⟨rfl, _, rfl⟩

theorem refAdd_no (A A' : Option Addr) (c c' : Nat) (l m : List Int) (w : World) (h : Has w w.heap.size A l) (h' : Has w w.heap.size A' m) (hl : l.length ≤ 4611686018427387904) (hn : m.length ≤ 4611686018427387904) (hp : ¬ (IsPoly l ∧ IsPoly m)) :
    Calls Try.prog 19 #[.slice A l.length c, .slice A' m.length c'] w fun e w' => e = .returned (.slice none 0 0) ∧ ∃ n, w' = w.drewN n := by
  by_cases h1 : IsPoly l
  · exact refAdd_no2 A A' c c' l m w h h' hn h1 fun h2 => hp ⟨h1, h2⟩
  · exact refAdd_no1 A A' c c' l m w h hl h1

set_option maxRecDepth 100000 in
set_option maxHeartbeats 400000 in
theorem refSub_no1 (A A' : Option Addr) (c c' : Nat) (l m : List Int) (w : World) (h : Has w w.heap.size A l) (hn : l.length ≤ 4611686018427387904) (hp : ¬ IsPoly l) :
    Calls Try.prog 20 #[.slice A l.length c, .slice A' m.length c'] w fun e w' => e = .returned (.slice none 0 0) ∧ ∃ n, w' = w.drewN n := by
  have HP := Lib.hid hp
  have H := Lib.hid h
  clear h hp
  go_enter Try.func20, Try.ntmps20
  go_wp2_with (go_at_call 25; refine (may_no _ _ _ l _ H.out hn HP.out).mono ?_; rintro e w' ⟨rfl, n, rfl⟩)
  go_ret
  exact ⟨rfl, _, rfl⟩

set_option maxRecDepth 100000 in
set_option maxHeartbeats 400000 in
theorem refSub_no2 (A A' : Option Addr) (c c' : Nat) (l m : List Int) (w : World) (h : Has w w.heap.size A l) (h' : Has w w.heap.size A' m) (hn : m.length ≤ 4611686018427387904) (hp : IsPoly l) (hq : ¬ IsPoly m) :
    Calls Try.prog 20 #[.slice A l.length c, .slice A' m.length c'] w fun e w' => e = .returned (.slice none 0 0) ∧ ∃ n, w' = w.drewN n := by
  have HP := Lib.hid hp
  have H := Lib.hid h
  have HQ := Lib.hid hq
  have H' := Lib.hid h'
  clear h hp hq h'
  go_enter Try.func20, Try.ntmps20
  go_wp2_with (go_at_call 25; (first | (with_reducible refine (may_yes _ _ _ l _ H.out HP.out).mono ?_) | (with_reducible refine (may_no _ _ _ m _ (H'.out.drewN _) hn HQ.out).mono ?_)); rintro e w' ⟨rfl, n, rfl⟩)
  go_ret
  exact ⟨rfl, _, rfl⟩

theorem refSub_no (A A' : Option Addr) (c c' : Nat) (l m : List Int) (w : World) (h : Has w w.heap.size A l) (h' : Has w w.heap.size A' m) (hl : l.length ≤ 4611686018427387904) (hn : m.length ≤ 4611686018427387904) (hp : ¬ (IsPoly l ∧ IsPoly m)) :
    Calls Try.prog 20 #[.slice A l.length c, .slice A' m.length c'] w fun e w' => e = .returned (.slice none 0 0) ∧ ∃ n, w' = w.drewN n := by
  by_cases h1 : IsPoly l
  · exact refSub_no2 A A' c c' l m w h h' hn h1 fun h2 => hp ⟨h1, h2⟩
  · exact refSub_no1 A A' c c' l m w h hl h1

set_option maxRecDepth 100000 in
set_option maxHeartbeats 400000 in
theorem refTimes_no1 (A A' : Option Addr) (c c' : Nat) (l m : List Int) (w : World) (h : Has w w.heap.size A l) (hn : l.length ≤ 4611686018427387904) (hp : ¬ IsPoly l) :
    Calls Try.prog 23 #[.slice A l.length c, .slice A' m.length c'] w fun e w' => e = .returned (.slice none 0 0) ∧ ∃ n, w' = w.drewN n := by
  have HP := Lib.hid hp
  have H := Lib.hid h
  clear h hp
  go_enter Try.func23, Try.ntmps23
  go_wp2_with (go_at_call 25; refine (may_no _ _ _ l _ H.out hn HP.out).mono ?_; rintro e w' ⟨rfl, n, rfl⟩)
  go_ret
  exact ⟨rfl, _, rfl⟩

set_option maxRecDepth 100000 in
set_option maxHeartbeats 400000 in
theorem refTimes_no2 (A A' : Option Addr) (c c' : Nat) (l m : List Int) (w : World) (h : Has w w.heap.size A l) (h' : Has w w.heap.size A' m) (hn : m.length ≤ 4611686018427387904) (hp : IsPoly l) (hq : ¬ IsPoly m) :
    Calls Try.prog 23 #[.slice A l.length c, .slice A' m.length c'] w fun e w' => e = .returned (.slice none 0 0) ∧ ∃ n, w' = w.drewN n := by
  have HP := Lib.hid hp
  have H := Lib.hid h
  have HQ := Lib.hid hq
  have H' := Lib.hid h'
  clear h hp hq h'
  go_enter Try.func23, Try.ntmps23
  go_wp2_with (go_at_call 25; (first | (with_reducible refine (may_yes _ _ _ l _ H.out HP.out).mono ?_) | (with_reducible refine (may_no _ _ _ m _ (H'.out.drewN _) hn HQ.out).mono ?_)); rintro e w' ⟨rfl, n, rfl⟩)
  go_ret
  exact ⟨rfl, _, rfl⟩

theorem refTimes_no (A A' : Option Addr) (c c' : Nat) (l m : List Int) (w : World) (h : Has w w.heap.size A l) (h' : Has w w.heap.size A' m) (hl : l.length ≤ 4611686018427387904) (hn : m.length ≤ 4611686018427387904) (hp : ¬ (IsPoly l ∧ IsPoly m)) :
    Calls Try.prog 23 #[.slice A l.length c, .slice A' m.length c'] w fun e w' => e = .returned (.slice none 0 0) ∧ ∃ n, w' = w.drewN n := by
  by_cases h1 : IsPoly l
  · exact refTimes_no2 A A' c c' l m w h h' hn h1 fun h2 => hp ⟨h1, h2⟩
  · exact refTimes_no1 A A' c c' l m w h hl h1

end Go.Proofs.Ytneopnlklhcopaa
