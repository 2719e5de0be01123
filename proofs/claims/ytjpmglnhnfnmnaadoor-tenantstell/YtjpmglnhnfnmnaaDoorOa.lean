/- Contracts: the program's small functions: is there such a tenant, may a name stand, may a parent; has a parent a child of that name (a closure, by slices.ContainsFunc's own code). -/
import Derived.Test.YtjpmglnhnfnmnaaDoorTe
namespace Go.Proofs.YtjpmglnhnfnmnaaDoor
open Go.RowKit Slices

set_option maxHeartbeats 400000 in
theorem isThere_any (A : Option Addr) (n c : Nat) (a : Int) (w : World) (_hn : n ≤ 1000) :
    Calls Tryd.prog 26 #[.slice A n c, .int .i64 a] w fun e w' => e = .returned (.bool (decide (1 ≤ a ∧ a ≤ (n : Int)))) ∧ w = w' := by
  by_cases h1 : 1 ≤ a
  · by_cases h2 : a ≤ (n : Int)
    · go_enter Tryd.func26, Tryd.ntmps26
      go_wp2
      go_ret
      exact ⟨ret_bool (by simp [h1, h2]), rfl⟩
    · go_enter Tryd.func26, Tryd.ntmps26
      go_wp2
      go_ret
      exact ⟨ret_bool (by simp [h2]), rfl⟩
  · go_enter Tryd.func26, Tryd.ntmps26
    go_wp2
    go_ret
    exact ⟨ret_bool (by simp; omega), rfl⟩
set_option maxHeartbeats 400000 in
theorem mayName_any (s : ByteArray) (w : World) (_hn : s.size ≤ 4000) :
    Calls Tryd.prog 32 #[.string s] w fun e w' => e = .returned (.bool (decide (1 ≤ s.size ∧ s.size ≤ 300))) ∧ w = w' := by
  by_cases h1 : 1 ≤ s.size
  · by_cases h2 : s.size ≤ 300
    · go_enter Tryd.func32, Tryd.ntmps32
      go_wp2
      go_ret
      exact ⟨ret_bool (decide_eq_decide.2 (by omega)), rfl⟩
    · go_enter Tryd.func32, Tryd.ntmps32
      go_wp2
      go_ret
      exact ⟨ret_bool (decide_eq_decide.2 (by omega)), rfl⟩
  · go_enter Tryd.func32, Tryd.ntmps32
    go_wp2
    go_ret
    exact ⟨ret_bool (by first | rfl | exact (decide_eq_false (by omega)).symm), rfl⟩
/-- a parent that may stand behind n others -/
def ParOk (p : Int) (n : Nat) : Prop := (p = 0 ↔ n = 0) ∧ 0 ≤ p ∧ p ≤ (n : Int)
instance (p : Int) (n : Nat) : Decidable (ParOk p n) := by unfold ParOk; infer_instance
theorem parOk_zero (p : Int) : decide (ParOk p 0) = decide (p = 0) := decide_eq_decide.2 (by unfold ParOk; omega)
theorem parOk_more (p : Int) {n : Nat} (h : 1 ≤ n) : decide (ParOk p n) = decide (1 ≤ p ∧ p ≤ (n : Int)) := decide_eq_decide.2 (by unfold ParOk; omega)
set_option maxHeartbeats 400000 in
theorem mayParent_any (p : Int) (n : Nat) (w : World) (_hn : n ≤ 1000) :
    Calls Tryd.prog 31 #[.int .i64 p, .int .i64 n] w fun e w' => e = .returned (.bool (decide (ParOk p n))) ∧ w = w' := by
  cases n with
  | zero =>
    rw [parOk_zero]
    by_cases h1 : 0 ≤ p
    · by_cases h2 : p ≤ 0
      · go_enter Tryd.func31, Tryd.ntmps31
        go_wp2
        go_ret
        exact ⟨ret_bool (by simp; omega), rfl⟩
      · go_enter Tryd.func31, Tryd.ntmps31
        go_wp2
        go_ret
        exact ⟨ret_bool (by simp; omega), rfl⟩
    · go_enter Tryd.func31, Tryd.ntmps31
      go_wp2
      go_ret
      exact ⟨ret_bool (by simp; omega), rfl⟩
  | succ n =>
    rw [parOk_more p (by omega)]
    obtain ⟨m, hm⟩ : ∃ m : Int, m = ((n + 1 : Nat) : Int) := ⟨_, rfl⟩
    have hmin : min (1 : Int) m = 1 := by omega
    rw [← hm]
    have m1 : 1 ≤ m := by omega
    have m2 : m ≤ 2000 := by omega
    clear hm
    by_cases h1 : 1 ≤ p
    · by_cases h2 : p ≤ m
      · go_enter Tryd.func31, Tryd.ntmps31
        go_wp2
        go_ret
        exact ⟨ret_bool (by simp; omega), rfl⟩
      · go_enter Tryd.func31, Tryd.ntmps31
        go_wp2
        go_ret
        exact ⟨ret_bool (by simp; omega), rfl⟩
    · go_enter Tryd.func31, Tryd.ntmps31
      go_wp2
      go_ret
      exact ⟨ret_bool (by simp; omega), rfl⟩

/-- is the tenant a child of p, of that name? -/
noncomputable def isC (t : Ten) (p : Int) (nm : ByteArray) : Bool := @decide (t.par = p ∧ t.nm = nm) (Classical.propDecidable _)
theorem isC_yes {t : Ten} {p : Int} {nm : ByteArray} (h : t.par = p ∧ t.nm = nm) : isC t p nm = true := @decide_eq_true _ (Classical.propDecidable _) h
theorem isC_no {t : Ten} {p : Int} {nm : ByteArray} (h : ¬ (t.par = p ∧ t.nm = nm)) : isC t p nm = false := @decide_eq_false _ (Classical.propDecidable _) h
/-- has one of the first n that parent and that name? -/
def KidN (l : List Ten) (n : Nat) (p : Int) (nm : ByteArray) : Prop := ∃ k, k < n ∧ (tg l k).par = p ∧ (tg l k).nm = nm
noncomputable def kidC (l : List Ten) (n : Nat) (p : Int) (nm : ByteArray) : Bool := @decide (KidN l n p nm) (Classical.propDecidable _)
theorem kidC_yes {l : List Ten} {n : Nat} {p : Int} {nm : ByteArray} (h : KidN l n p nm) : kidC l n p nm = true := @decide_eq_true _ (Classical.propDecidable _) h
theorem kidC_no {l : List Ten} {n : Nat} {p : Int} {nm : ByteArray} (h : ¬ KidN l n p nm) : kidC l n p nm = false := @decide_eq_false _ (Classical.propDecidable _) h

set_option maxHeartbeats 400000 in
theorem isChild_any (t : Ten) (p : Int) (nm : ByteArray) (B C : Nat) (w : World) (h1 : w.cell? ⟨B, 0, none⟩ = some (.int .i64 p)) (h2 : w.cell? ⟨C, 0, none⟩ = some (.string nm)) (hB : B < w.heap.size) (hC : C < w.heap.size) :
    Calls Tryd.prog 44 #[.agg #[.int .i64 t.id, .int .i64 t.par, .string t.nm], .pointer (some ⟨B, 0, none⟩), .pointer (some ⟨C, 0, none⟩)] w fun e w' => e = .returned (.bool (isC t p nm)) ∧ Below w.heap.size w w' := by
  obtain ⟨id, q, s⟩ := t
  have n1 : ¬ w.heap.size = B := by omega
  have n2 : ¬ w.heap.size = C := by omega
  have n3 : B ≠ w.heap.size := by omega
  have n4 : C ≠ w.heap.size := by omega
  show Calls Tryd.prog 44 #[.agg #[.int .i64 id, .int .i64 q, .string s], _, _] w _
  by_cases q1 : q = p
  · subst q1
    by_cases q2 : s = nm
    · subst q2
      have e := isC_yes (t := ⟨id, q, s⟩) ⟨rfl, rfl⟩
      rw [e]
      go_enter Tryd.func44, Tryd.ntmps44
      go_wp2
      go_ret
      exact ⟨rfl, (Below.refl _ _).alloc (Nat.le_refl _) _⟩
    · have e := isC_no (t := ⟨id, q, s⟩) (p := q) (nm := nm) (fun h => q2 h.2)
      rw [e]
      have t1 : (s.toList == nm.toList) = false := by
        cases h : (s.toList == nm.toList)
        · rfl
        · exact absurd ((bytes_eq _ _).1 h) q2
      go_enter Tryd.func44, Tryd.ntmps44
      go_wp2
      go_ret
      exact ⟨ret_bool (by first | rfl | exact t1), (Below.refl _ _).alloc (Nat.le_refl _) _⟩
  · have e := isC_no (t := ⟨id, q, s⟩) (p := p) (nm := nm) (fun h => q1 h.1)
    rw [e]
    have t1 : (q == p) = false := beq_eq_false_iff_ne.2 q1
    go_enter Tryd.func44, Tryd.ntmps44
    go_wp2
    go_ret
    exact ⟨rfl, (Below.refl _ _).alloc (Nat.le_refl _) _⟩

set_option maxHeartbeats 1000000 in
theorem indexFunc_any (A : Option Addr) (n c : Nat) (l : List Ten) (p : Int) (nm : ByteArray) (B C : Nat) (w : World) (h : HasT w w.heap.size A l) (hn : n ≤ l.length) (hl : l.length ≤ 12)
    (h1 : w.cell? ⟨B, 0, none⟩ = some (.int .i64 p)) (h2 : w.cell? ⟨C, 0, none⟩ = some (.string nm)) (hB : B < w.heap.size) (hC : C < w.heap.size) :
    Calls Tryd.prog 49 #[.slice A n c, .func (.func 44) #[] #[.pointer (some ⟨B, 0, none⟩), .pointer (some ⟨C, 0, none⟩)]] w
      fun e w' => ∃ r : Int, e = .returned (.int .i64 r) ∧ -1 ≤ r ∧ r ≤ 12 ∧ kidC l n p nm = decide (0 ≤ r) ∧ Below w.heap.size w w' := by
  have H := Lib.hid h
  have H1 := Lib.hid h1
  have H2 := Lib.hid h2
  have HB := Lib.hid hB
  have HC := Lib.hid hC
  clear h h1 h2 hB hC
  go_enter Tryd.func49, Tryd.ntmps49
  go_wp2
  go_loopw [5, 8] (fun _ i wr => ∃ k : Nat, k ≤ n ∧ i = .int .i64 k ∧ Below w.heap.size w wr ∧ ¬ KidN l k p nm) (fun _ i _ => n - (intOf i).toNat)
  case atStart => exact ⟨0, by omega, rfl, Below.refl _ _, fun ⟨j, hj, _⟩ => by cases hj⟩
  case round =>
    obtain ⟨k, hk, rfl, hb, hr⟩ := hrel
    have HW := Lib.hid hb
    have HR := Lib.hid hr
    clear hb hr
    by_cases hlt : k < n
    · obtain ⟨a, rfl, _, a0, a1, a2⟩ := (H.out.next HW.out).at (k := k) (by omega)
      obtain ⟨t, ht⟩ : ∃ t, t = tg l k := ⟨_, rfl⟩
      rw [← ht] at a0 a1 a2
      have HT := Lib.hid ht
      have hcall := isChild_any t p nm B C wr ((HW.out.cell (p := ⟨B, 0, none⟩) HB.out).trans H1.out) ((HW.out.cell (p := ⟨C, 0, none⟩) HC.out).trans H2.out) (Nat.lt_of_lt_of_le HB.out HW.out.size) (Nat.lt_of_lt_of_le HC.out HW.out.size)
      clear ht
      rw [← add_add3 a (k * 3) 1] at a1
      rw [← add_add3 a (k * 3) 2] at a2
      have a1' : wr.cell? ⟨(a.add (k * 3)).block, (a.add (k * 3)).off + 1, none⟩ = some (.int .i64 t.par) := a1
      have a2' : wr.cell? ⟨(a.add (k * 3)).block, (a.add (k * 3)).off + 2, none⟩ = some (.string t.nm) := a2
      clear a1 a2
      by_cases hq : t.par = p ∧ t.nm = nm
      · rw [isC_yes hq] at hcall
        have HQ := Lib.hid hq
        clear hq
        go_wp2_with (go_at_call 44; refine hcall.mono ?_; rintro e w' ⟨rfl, hb'⟩)
        go_ret
        exact ⟨k, rfl, by omega, by omega, by rw [kidC_yes ⟨k, hlt, by rw [← HT.out]; exact HQ.out⟩]; simp, below_next HW.out hb'⟩
      · rw [isC_no hq] at hcall
        have HQ := Lib.hid hq
        clear hq
        go_wp2_with (go_at_call 44; refine hcall.mono ?_; rintro e w' ⟨rfl, hb'⟩)
        go_roundw
        case rel => exact ⟨k + 1, by omega, by go_num, below_next HW.out hb', fun ⟨j, hj, hp⟩ => by
          by_cases e : j = k
          · rw [e, ← HT.out] at hp; exact HQ.out hp
          · exact HR.out ⟨j, by omega, hp⟩⟩
        case measure => simp [intOf]; omega
    · obtain rfl : k = n := by omega
      go_wp2
      go_ret
      exact ⟨-1, rfl, by omega, by omega, by rw [kidC_no HR.out]; rfl, HW.out⟩
set_option maxHeartbeats 400000 in
theorem containsFunc_any (A : Option Addr) (n c : Nat) (l : List Ten) (p : Int) (nm : ByteArray) (B C : Nat) (w : World) (h : HasT w w.heap.size A l) (hn : n ≤ l.length) (hl : l.length ≤ 12)
    (h1 : w.cell? ⟨B, 0, none⟩ = some (.int .i64 p)) (h2 : w.cell? ⟨C, 0, none⟩ = some (.string nm)) (hB : B < w.heap.size) (hC : C < w.heap.size) :
    Calls Tryd.prog 43 #[.slice A n c, .func (.func 44) #[] #[.pointer (some ⟨B, 0, none⟩), .pointer (some ⟨C, 0, none⟩)]] w
      fun e w' => e = .returned (.bool (kidC l n p nm)) ∧ Below w.heap.size w w' := by
  have hcall := indexFunc_any A n c l p nm B C w h hn hl h1 h2 hB hC
  clear h h1 h2 hB hC
  go_enter Tryd.func43, Tryd.ntmps43
  go_wp2_with (go_at_call 49; refine hcall.mono ?_; rintro e w' ⟨r, rfl, r0, r1, hr, hb⟩; have HR := Lib.hid hr; have HB := Lib.hid hb; clear hr hb)
  go_ret
  exact ⟨ret_bool HR.out.symm, HB.out⟩
set_option maxHeartbeats 400000 in
theorem hasChild_any (A : Option Addr) (n c : Nat) (l : List Ten) (p : Int) (nm : ByteArray) (w : World) (h : HasT w w.heap.size A l) (hn : n ≤ l.length) (hl : l.length ≤ 12) :
    Calls Tryd.prog 33 #[.slice A n c, .int .i64 p, .string nm] w fun e w' => e = .returned (.bool (kidC l n p nm)) ∧ Below w.heap.size w w' := by
  have b1 : Below w.heap.size w (w.alloc (.cells #[.int .i64 p] 3)) := (Below.refl _ _).alloc (Nat.le_refl _) _
  have b2 : Below w.heap.size w ((w.alloc (.cells #[.int .i64 p] 3)).alloc (.cells #[.string nm] 9)) := b1.alloc (by simp) _
  have hcall := containsFunc_any A n c l p nm w.heap.size (w.heap.size + 1) ((w.alloc (.cells #[.int .i64 p] 3)).alloc (.cells #[.string nm] 9)) (h.next b2) hn hl (by simp) (by simp) (by simp; omega) (by simp)
  have HB := Lib.hid b2
  clear h b1 b2
  go_enter Tryd.func33, Tryd.ntmps33
  go_wp2_with (go_at_call 43; refine hcall.mono ?_; rintro e w' ⟨rfl, hb⟩)
  go_ret
  exact ⟨rfl, below_next HB.out hb⟩
end Go.Proofs.YtjpmglnhnfnmnaaDoor
