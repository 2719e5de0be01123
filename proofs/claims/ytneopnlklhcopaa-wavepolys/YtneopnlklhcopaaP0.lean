/- Contracts: what is told of any lists, by the program. -/
import Derived.Test.YtneopnlklhcopaaPg
namespace Go.Proofs.Ytneopnlklhcopaa
open Go.RowKit Slices Go.Proofs.Ytneopnlklhcopaa.Ring

theorem pAdd_res (A A' : Option Addr) (c c' : Nat) (l m : List Int) (w : World) (h : Has w w.heap.size A l) (h' : Has w w.heap.size A' m) (_hl : l.length ≤ 300) (_hm : m.length ≤ 300) :
    Calls Try.prog 13 #[.slice A l.length c, .slice A' m.length c'] w (Res w (two vAdd l m)) := by
  by_cases hp : IsPoly l ∧ IsPoly m
  · rw [two_yes hp.1 hp.2]; exact (pAdd_yes A A' c c' l m w h h' hp.1 hp.2).mono fun _ _ h => h.res
  · rw [two_no hp]; exact (pAdd_no A A' c c' l m w h h' hp).mono fun _ _ h => res_nil h.1 h.2
theorem pSub_res (A A' : Option Addr) (c c' : Nat) (l m : List Int) (w : World) (h : Has w w.heap.size A l) (h' : Has w w.heap.size A' m) (_hl : l.length ≤ 300) (_hm : m.length ≤ 300) :
    Calls Try.prog 14 #[.slice A l.length c, .slice A' m.length c'] w (Res w (two vSub l m)) := by
  by_cases hp : IsPoly l ∧ IsPoly m
  · rw [two_yes hp.1 hp.2]; exact (pSub_yes A A' c c' l m w h h' hp.1 hp.2).mono fun _ _ h => h.res
  · rw [two_no hp]; exact (pSub_no A A' c c' l m w h h' hp).mono fun _ _ h => res_nil h.1 h.2
theorem pTimes_res (A A' : Option Addr) (c c' : Nat) (l m : List Int) (w : World) (h : Has w w.heap.size A l) (h' : Has w w.heap.size A' m) (_hl : l.length ≤ 300) (_hm : m.length ≤ 300) :
    Calls Try.prog 17 #[.slice A l.length c, .slice A' m.length c'] w (Res w (two vTimes l m)) := pTimes_any A A' c c' l m w h h'
theorem pOver_res (A : Option Addr) (c : Nat) (l : List Int) (w : World) (h : Has w w.heap.size A l) (_hl : l.length ≤ 300)
    (_T : Hid (Tab w) := by first | assumption | exact tab_b (by assumption) (by assumption) | exact tab_d0 (by assumption) | exact tab_d (by assumption) (by assumption)) :
    Calls Try.prog 15 #[.slice A l.length c] w (Res w (one vOver l)) := by
  by_cases hp : IsPoly l
  · rw [one_yes hp]; exact (pOver_yes A c l w h hp).mono fun _ _ h => h.res
  · rw [one_no hp]; exact (pOver_no A c l w h hp).mono fun _ _ h => res_nil h.1 h.2
theorem pBack_res (A : Option Addr) (c : Nat) (l : List Int) (w : World) (h : Has w w.heap.size A l) (_hl : l.length ≤ 300)
    (_T : Hid (Tab w) := by first | assumption | exact tab_b (by assumption) (by assumption) | exact tab_d0 (by assumption) | exact tab_d (by assumption) (by assumption)) :
    Calls Try.prog 16 #[.slice A l.length c] w (Res w (one vBack l)) := by
  by_cases hp : IsPoly l
  · rw [one_yes hp]; exact (pBack_yes A c l w h hp).mono fun _ _ h => h.res
  · rw [one_no hp]; exact (pBack_no A c l w h hp).mono fun _ _ h => res_nil h.1 h.2
theorem pMay_any (A : Option Addr) (c : Nat) (l : List Int) (w : World) (h : Has w w.heap.size A l) (_hl : l.length ≤ 300) :
    Calls Try.prog 24 #[.slice A l.length c] w fun e w' => e = .returned (.bool (mayB l)) ∧ ∃ n, w' = w.drewN n := by
  by_cases hp : IsPoly l
  · rw [mayB_yes hp]; exact pMay_yes A c _ l w h hp
  · rw [mayB_no hp]; exact pMay_no A c _ l w h hp
theorem pRoot_any (i : Int) (w : World)
    (_T : Hid (Tab w) := by first | assumption | exact tab_b (by assumption) (by assumption) | exact tab_d0 (by assumption) | exact tab_d (by assumption) (by assumption)) :
    Calls Try.prog 26 #[.int .i64 i] w fun e w' => e = .returned (.int .i64 (rRoot i)) ∧ ∃ n, w' = w.drewN n :=
  (root_any i w).mono fun _ _ h => ⟨h.1, 0, h.2.symm⟩
theorem pNorm_res (A : Option Addr) (c : Nat) (es : List Ent) (w : World) (h : HasL w w.heap.size A es) (hn : es.length ≤ 300) (_hl : ∀ i (h : i < es.length), es[i].l.length ≤ 300) :
    Calls Try.prog 28 #[.slice A es.length c] w fun e w' => e = .returned (.int .i64 (normL (nums es))) ∧ ∃ n, w' = w.drewN n := by
  by_cases hp : AllPoly (nums es)
  · rw [normL_yes hp, nums_len]; exact pNorm_yes A c es w h hn hp
  · rw [normL_no hp]; exact pNorm_no A c es w h hn hp
end Go.Proofs.Ytneopnlklhcopaa
