/- Contracts: what is told of any lists, by the document and by the program. -/
import Derived.Test.YtmjcgkddjgplkaaDoorE
import Derived.Test.YtmjcgkddjgplkaaDoorG
import Derived.Test.YtmjcgkddjgplkaaDoorH
import Derived.Test.YtmjcgkddjgplkaaDoorI
import Derived.Test.YtmjcgkddjgplkaaDoorJ
import Derived.Test.YtmjcgkddjgplkaaDoorL
import Derived.Test.YtmjcgkddjgplkaaDoorPolyF
import Derived.Test.YtmjcgkddjgplkaaDoorDg
namespace Go.Proofs.YtmjcgkddjgplkaaDoor
open Go.RowKit Slices Go.Proofs.YtmjcgkddjgplkaaDoor.Ring

theorem tab_b {w w' : World} (t : Hid (Tab w)) (b : Hid (Below w.heap.size w w')) : Hid (Tab w') := t.out.next b.out
theorem tab_d0 {w : World} {n : Nat} (t : Hid (Tab w)) : Hid (Tab (w.drewN n)) := t.out.drewN n
theorem tab_d {w w' : World} {n : Nat} (t : Hid (Tab w)) (b : Hid (Below w.heap.size w w')) : Hid (Tab (w'.drewN n)) := (t.out.next b.out).drewN n

theorem refAdd_res (A A' : Option Addr) (c c' : Nat) (l m : List Int) (w : World) (h : Has w w.heap.size A l) (h' : Has w w.heap.size A' m) (hl : l.length ≤ 300) (hm : m.length ≤ 300) :
    Calls Tryd.prog 19 #[.slice A l.length c, .slice A' m.length c'] w (Res w (two vAdd l m)) := by
  by_cases hp : IsPoly l ∧ IsPoly m
  · rw [two_yes hp.1 hp.2]; exact (refAdd_yes A A' c c' l m w h h' hp.1 hp.2).mono fun _ _ h => h.res
  · rw [two_no hp]; exact (refAdd_no A A' c c' l m w h h' (big hl) (big hm) hp).mono fun _ _ h => res_nil h.1 h.2
theorem pAdd_res (A A' : Option Addr) (c c' : Nat) (l m : List Int) (w : World) (h : Has w w.heap.size A l) (h' : Has w w.heap.size A' m) (_hl : l.length ≤ 300) (_hm : m.length ≤ 300) :
    Calls Tryd.prog 13 #[.slice A l.length c, .slice A' m.length c'] w (Res w (two vAdd l m)) := by
  by_cases hp : IsPoly l ∧ IsPoly m
  · rw [two_yes hp.1 hp.2]; exact (pAdd_yes A A' c c' l m w h h' hp.1 hp.2).mono fun _ _ h => h.res
  · rw [two_no hp]; exact (pAdd_no A A' c c' l m w h h' hp).mono fun _ _ h => res_nil h.1 h.2
theorem refSub_res (A A' : Option Addr) (c c' : Nat) (l m : List Int) (w : World) (h : Has w w.heap.size A l) (h' : Has w w.heap.size A' m) (hl : l.length ≤ 300) (hm : m.length ≤ 300) :
    Calls Tryd.prog 20 #[.slice A l.length c, .slice A' m.length c'] w (Res w (two vSub l m)) := by
  by_cases hp : IsPoly l ∧ IsPoly m
  · rw [two_yes hp.1 hp.2]; exact (refSub_yes A A' c c' l m w h h' hp.1 hp.2).mono fun _ _ h => h.res
  · rw [two_no hp]; exact (refSub_no A A' c c' l m w h h' (big hl) (big hm) hp).mono fun _ _ h => res_nil h.1 h.2
theorem pSub_res (A A' : Option Addr) (c c' : Nat) (l m : List Int) (w : World) (h : Has w w.heap.size A l) (h' : Has w w.heap.size A' m) (_hl : l.length ≤ 300) (_hm : m.length ≤ 300) :
    Calls Tryd.prog 14 #[.slice A l.length c, .slice A' m.length c'] w (Res w (two vSub l m)) := by
  by_cases hp : IsPoly l ∧ IsPoly m
  · rw [two_yes hp.1 hp.2]; exact (pSub_yes A A' c c' l m w h h' hp.1 hp.2).mono fun _ _ h => h.res
  · rw [two_no hp]; exact (pSub_no A A' c c' l m w h h' hp).mono fun _ _ h => res_nil h.1 h.2
theorem refTimes_res (A A' : Option Addr) (c c' : Nat) (l m : List Int) (w : World) (h : Has w w.heap.size A l) (h' : Has w w.heap.size A' m) (hl : l.length ≤ 300) (hm : m.length ≤ 300) :
    Calls Tryd.prog 23 #[.slice A l.length c, .slice A' m.length c'] w (Res w (two vTimes l m)) := by
  by_cases hp : IsPoly l ∧ IsPoly m
  · rw [two_yes hp.1 hp.2]; exact (refTimes_yes A A' c c' l m w h h' hp.1 hp.2).mono fun _ _ h => h.res
  · rw [two_no hp]; exact (refTimes_no A A' c c' l m w h h' (big hl) (big hm) hp).mono fun _ _ h => res_nil h.1 h.2
theorem pTimes_res (A A' : Option Addr) (c c' : Nat) (l m : List Int) (w : World) (h : Has w w.heap.size A l) (h' : Has w w.heap.size A' m) (_hl : l.length ≤ 300) (_hm : m.length ≤ 300)
    (T : Hid (Tab w) := by first | assumption | exact tab_b (by assumption) (by assumption) | exact tab_d0 (by assumption) | exact tab_d (by assumption) (by assumption)) :
    Calls Tryd.prog 17 #[.slice A l.length c, .slice A' m.length c'] w (Res w (two vTimes l m)) := pTimes_any A A' c c' l m w h h' T
theorem refOver_res (A : Option Addr) (c : Nat) (l : List Int) (w : World) (h : Has w w.heap.size A l) (hl : l.length ≤ 300) :
    Calls Tryd.prog 21 #[.slice A l.length c] w (Res w (one vOver l)) := by
  by_cases hp : IsPoly l
  · rw [one_yes hp]; exact (refOver_yes A c l w h hp).mono fun _ _ h => h.res
  · rw [one_no hp]; exact (refOver_no A c l w h (big hl) hp).mono fun _ _ h => res_nil h.1 h.2
theorem pOver_res (A : Option Addr) (c : Nat) (l : List Int) (w : World) (h : Has w w.heap.size A l) (_hl : l.length ≤ 300)
    (T : Hid (Tab w) := by first | assumption | exact tab_b (by assumption) (by assumption) | exact tab_d0 (by assumption) | exact tab_d (by assumption) (by assumption)) :
    Calls Tryd.prog 15 #[.slice A l.length c] w (Res w (one vOver l)) := by
  by_cases hp : IsPoly l
  · rw [one_yes hp]; exact (pOver_yes A c l w h hp T).mono fun _ _ h => h.res
  · rw [one_no hp]; exact (pOver_no A c l w h hp).mono fun _ _ h => res_nil h.1 h.2
theorem refBack_res (A : Option Addr) (c : Nat) (l : List Int) (w : World) (h : Has w w.heap.size A l) (hl : l.length ≤ 300) :
    Calls Tryd.prog 22 #[.slice A l.length c] w (Res w (one vBack l)) := by
  by_cases hp : IsPoly l
  · rw [one_yes hp]; exact (refBack_yes A c l w h hp).mono fun _ _ h => h.res
  · rw [one_no hp]; exact (refBack_no A c l w h (big hl) hp).mono fun _ _ h => res_nil h.1 h.2
theorem pBack_res (A : Option Addr) (c : Nat) (l : List Int) (w : World) (h : Has w w.heap.size A l) (_hl : l.length ≤ 300)
    (T : Hid (Tab w) := by first | assumption | exact tab_b (by assumption) (by assumption) | exact tab_d0 (by assumption) | exact tab_d (by assumption) (by assumption)) :
    Calls Tryd.prog 16 #[.slice A l.length c] w (Res w (one vBack l)) := by
  by_cases hp : IsPoly l
  · rw [one_yes hp]; exact (pBack_yes A c l w h hp T).mono fun _ _ h => h.res
  · rw [one_no hp]; exact (pBack_no A c l w h hp).mono fun _ _ h => res_nil h.1 h.2
theorem refMay_any (A : Option Addr) (c : Nat) (l : List Int) (w : World) (h : Has w w.heap.size A l) (hl : l.length ≤ 300) :
    Calls Tryd.prog 25 #[.slice A l.length c] w fun e w' => e = .returned (.bool (mayB l)) ∧ ∃ n, w' = w.drewN n := by
  by_cases hp : IsPoly l
  · rw [mayB_yes hp]; exact may_yes A c _ l w h hp
  · rw [mayB_no hp]; exact may_no A c _ l w h (big hl) hp
theorem pMay_any (A : Option Addr) (c : Nat) (l : List Int) (w : World) (h : Has w w.heap.size A l) (_hl : l.length ≤ 300) :
    Calls Tryd.prog 24 #[.slice A l.length c] w fun e w' => e = .returned (.bool (mayB l)) ∧ ∃ n, w' = w.drewN n := by
  by_cases hp : IsPoly l
  · rw [mayB_yes hp]; exact pMay_yes A c _ l w h hp
  · rw [mayB_no hp]; exact pMay_no A c _ l w h hp
end Go.Proofs.YtmjcgkddjgplkaaDoor
