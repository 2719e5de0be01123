/- Contracts: is a list great; which lists may be, by the document's own code. -/
import Derived.Test.YtjpmglnhnfnmnaaDoorTa
namespace Go.Proofs.YtjpmglnhnfnmnaaDoor
open Go.RowKit Slices

set_option maxHeartbeats 400000 in
theorem great_any (A : Option Addr) (n c : Nat) (l : List Ten) (w : World) (hn : n = l.length) (hb : n ≤ 4611686018427387904) (h : HasT w w.heap.size A l) :
    Calls Tryd.prog 6 #[.slice A n c] w fun e w' => ∃ b, e = .returned (.bool b) ∧ (b = false → n ≤ 12 ∧ ∀ k, k < n → (tg l k).nm.size ≤ 400) ∧ w = w' := by
  have HN := Lib.hid hn
  have H := Lib.hid h
  clear hn h
  by_cases h12 : n ≤ 12
  · go_enter Tryd.func6, Tryd.ntmps6
    go_wp2
    go_loopw [3] (fun i wr => ∃ k : Nat, k ≤ n ∧ i = .int .i64 k ∧ wr = w ∧ ∀ j, j < k → (tg l j).nm.size ≤ 400) (fun i _ => n - (intOf i).toNat)
    case atStart => exact ⟨0, by omega, rfl, rfl, fun j hj => by cases hj⟩
    case round =>
      obtain ⟨k, hk, rfl, hw, hr⟩ := hrel
      obtain rfl := hw
      have HR := Lib.hid hr
      clear hr
      by_cases hlt : k < n
      · obtain ⟨a, rfl, hab, a0, a1, a2⟩ := H.out.at (k := k) (by rw [← HN.out]; exact hlt)
        rw [← add_add3 a (k * 3) 2] at a2
        have a2' : wr.cell? ⟨(a.add (k * 3)).block, (a.add (k * 3)).off + 2, none⟩ = some (.string (tg l k).nm) := a2
        obtain ⟨s, hs⟩ : ∃ s, s = (tg l k).nm := ⟨_, rfl⟩
        rw [← hs] at a2'
        have HS := Lib.hid hs
        clear a0 a1 a2 hs
        by_cases hq : 400 < s.size
        · go_wp2
          go_ret
          exact ⟨true, rfl, (fun e => by cases e), rfl⟩
        · go_wp2
          go_roundw
          case rel => exact ⟨k + 1, by omega, by go_num, trivial, fun j hj => by
            by_cases e : j = k
            · rw [e, ← HS.out]; omega
            · exact HR.out j (by omega)⟩
          case measure => simp [intOf]; omega
      · have e : k = n := by omega
        subst e
        go_wp2
        go_ret
        exact ⟨_, rfl, fun _ => ⟨by omega, HR.out⟩, rfl⟩
  · go_enter Tryd.func6, Tryd.ntmps6
    go_wp2
    refine wp_loop_rounds 1 ?_
    rw [rounds_succ]
    go_wp2
    go_ret
    exact ⟨_, rfl, fun e => by first | (cases e) | (simp at e; omega), rfl⟩

open Classical in
noncomputable def mayC (l : List Ten) : Bool := decide (MayT l)
theorem mayC_yes {l : List Ten} (m : MayT l) : mayC l = true := @decide_eq_true _ (Classical.propDecidable _) m
theorem mayC_no {l : List Ten} (m : ¬ MayT l) : mayC l = false := @decide_eq_false _ (Classical.propDecidable _) m
theorem bytes_eq (a b : ByteArray) : (a.toList == b.toList) = true ↔ a = b := by
  rw [beq_iff_eq]
  constructor
  · intro h
    rw [ByteArray.toList_eq, ByteArray.toList_eq] at h
    cases a
    cases b
    simp_all
  · intro h; rw [h]

set_option maxRecDepth 100000 in
set_option maxHeartbeats 1000000 in
theorem refMay_any (A : Option Addr) (n c : Nat) (l : List Ten) (w : World) (h : RdT w A n c l) :
    Calls Tryd.prog 18 #[.slice A n c] w fun e w' => e = .returned (.bool (mayC l)) ∧ Below w.heap.size w w' := by
  have HN := Lib.hid h.len
  have H := Lib.hid h
  have few := h.few
  clear h
  by_cases h8 : n ≤ 8
  · go_enter Tryd.func18, Tryd.ntmps18
    go_wp2
    go_loopw [3] (fun i wr => ∃ k : Nat, k ≤ n ∧ i = .int .i64 k ∧ Below w.heap.size w wr ∧ ∀ j, j < k → MayAt l j (tg l j)) (fun i _ => n - (intOf i).toNat)
    case atStart => exact ⟨0, by omega, rfl, Below.refl _ _, fun j hj => by cases hj⟩
    case round =>
      obtain ⟨k, hk, rfl, hb, hr⟩ := hrel
      have HB := Lib.hid hb
      have HR := Lib.hid hr
      clear hb hr
      by_cases hlt : k < n
      · obtain ⟨a, rfl, hab, a0, a1, a2⟩ := (H.out.next HB.out).has.at (k := k) (by rw [← HN.out]; exact hlt)
        obtain ⟨t, ht⟩ : ∃ t, t = tg l k := ⟨_, rfl⟩
        rw [← ht] at a0 a1 a2
        obtain ⟨f0, f1, f2⟩ := H.out.fit k hlt
        rw [← ht] at f0 f1 f2
        rw [← add_add3 a (k * 3) 1] at a1
        rw [← add_add3 a (k * 3) 2] at a2
        have a1' : wr.cell? ⟨(a.add (k * 3)).block, (a.add (k * 3)).off + 1, none⟩ = some (.int .i64 t.par) := a1
        have a2' : wr.cell? ⟨(a.add (k * 3)).block, (a.add (k * 3)).off + 2, none⟩ = some (.string t.nm) := a2
        have HT := Lib.hid ht
        clear a1 a2 ht f0 f1
        have HM : Hid (¬ MayAt l k t → mayC l = false) := fun hb => mayC_no fun m => by
          have q := m.each k (by rw [← HN.out]; exact hlt)
          rw [← HT.out] at q
          exact hb q
        have hW : Hid (RdT (wr.alloc (.cells #[.int .i64 t.id, .int .i64 t.par, .string t.nm] 46)) (some a) n c l) := H.out.next (HB.out.alloc HB.out.size _)
        obtain ⟨id, par, nm⟩ := t
        simp only at a0 a1' a2' f2 hW
        by_cases c1 : id = (k : Int) + 1
        · subst c1
          have t1 : (((k : Int) + 1) != (k : Int) + 1) = false := by simp
          by_cases c2 : nm.size < 1
          · have hm := Lib.hid (HM.out fun q => by have := q.lo; simp only at this; omega)
            go_wp2
            go_ret
            exact ⟨ret_bool hm.out.symm, HB.out.alloc HB.out.size _⟩
          by_cases c3 : 300 < nm.size
          · have hm := Lib.hid (HM.out fun q => by have := q.hi; simp only at this; omega)
            go_wp2
            go_ret
            exact ⟨ret_bool hm.out.symm, HB.out.alloc HB.out.size _⟩
          by_cases c4 : par = 0 ↔ k = 0
          · have t4 : ((par == 0) == ((k : Int) == 0)) = true := by
              by_cases q : k = 0
              · have e := c4.2 q
                rw [e, q]; rfl
              · have e : ¬ par = 0 := fun e => q (c4.1 e)
                rw [beq_eq_false_iff_ne.2 e, beq_eq_false_iff_ne.2 (by omega : (k : Int) ≠ 0)]; rfl
            by_cases c5 : par < 0
            · have hm := Lib.hid (HM.out fun q => by have := q.par0; simp only at this; omega)
              clear c4
              go_wp2
              go_ret
              exact ⟨ret_bool hm.out.symm, HB.out.alloc HB.out.size _⟩
            by_cases c6 : (k : Int) < par
            · have hm := Lib.hid (HM.out fun q => by have := q.par1; simp only at this; omega)
              clear c4
              go_wp2
              go_ret
              exact ⟨ret_bool hm.out.symm, HB.out.alloc HB.out.size _⟩
            have HC4 := Lib.hid c4
            have B2 : Hid (Below w.heap.size w (wr.alloc (.cells #[.int .i64 ((k : Int) + 1), .int .i64 par, .string nm] 46))) := HB.out.alloc HB.out.size _
            have C1 : (wr.alloc (.cells #[.int .i64 ((k : Int) + 1), .int .i64 par, .string nm] 46)).cell? ⟨wr.heap.size, 1, none⟩ = some (.int .i64 par) := by simp
            have C2 : (wr.alloc (.cells #[.int .i64 ((k : Int) + 1), .int .i64 par, .string nm] 46)).cell? ⟨wr.heap.size, 2, none⟩ = some (.string nm) := by simp
            have HC1 := Lib.hid C1
            have HC2 := Lib.hid C2
            clear c4 C1 C2
            go_wp2
            clear a0 a1' a2' t1 t4
            generalize wr.alloc (.cells #[.int .i64 ((k : Int) + 1), .int .i64 par, .string nm] 46) = W at hW B2 HC1 HC2 ⊢
            generalize wr.heap.size = g at HC1 HC2 ⊢
            go_loopw [5] (fun i wr' => ∃ j m : Nat, j ≤ k ∧ i = .int .i64 j ∧ wr' = W.drewN m ∧ ∀ i, i < j → ¬ ((tg l i).par = par ∧ (tg l i).nm = nm)) (fun i _ => k - (intOf i).toNat)
            case atStart => exact ⟨0, 0, by omega, rfl, rfl, fun j hj => by cases hj⟩
            case round =>
              obtain ⟨j, m, hj, rfl, rfl, hd⟩ := hrel
              have HD := Lib.hid hd
              clear hd
              by_cases hjk : j < k
              · obtain ⟨b, hbe, _, b0, b1, b2⟩ := hW.out.has.at (k := j) (by rw [← HN.out]; omega)
                injection hbe with hbe
                subst hbe
                rw [← add_add3 a (j * 3) 1] at b1
                rw [← add_add3 a (j * 3) 2] at b2
                obtain ⟨p', hp'⟩ : ∃ x, x = (tg l j).par := ⟨_, rfl⟩
                obtain ⟨s', hs'⟩ : ∃ x, x = (tg l j).nm := ⟨_, rfl⟩
                rw [← hp'] at b1
                rw [← hs'] at b2
                have HP := Lib.hid hp'
                have HS := Lib.hid hs'
                have b1' : W.cell? ⟨(a.add (j * 3)).block, (a.add (j * 3)).off + 1, none⟩ = some (.int .i64 p') := b1
                have b2' : W.cell? ⟨(a.add (j * 3)).block, (a.add (j * 3)).off + 2, none⟩ = some (.string s') := b2
                have g1 := HC1.out
                have g2 := HC2.out
                clear b0 b1 b2 hp' hs'
                by_cases q1 : p' = par
                · subst q1
                  by_cases q2 : s' = nm
                  · subst q2
                    have hm := Lib.hid (HM.out fun q => q.apart j hjk ⟨HP.out.symm, HS.out.symm⟩)
                    go_wp2
                    go_quiet (fail)
                    go_wp2
                    go_ret
                    exact ⟨ret_bool hm.out.symm, below_drewN (below_drewN B2.out _) _⟩
                  · have t1 : (s'.toList == nm.toList) = false := by
                      cases h : (s'.toList == nm.toList)
                      · rfl
                      · exact absurd ((bytes_eq _ _).1 h) q2
                    go_wp2
                    go_quiet (fail)
                    go_wp2
                    go_roundw
                    case rel => exact ⟨j + 1, m + nq, by omega, by go_num, rfl, fun i hi q => by
                      by_cases e : i = j
                      · rw [e, ← HS.out] at q; exact q2 q.2
                      · exact HD.out i (by omega) q⟩
                    case measure => simp [intOf]; omega
                · have t1 : (p' == par) = false := beq_eq_false_iff_ne.2 q1
                  go_wp2
                  go_quiet (fail)
                  go_wp2
                  go_roundw
                  case rel => exact ⟨j + 1, m + nq, by omega, by go_num, rfl, fun i hi q => by
                    by_cases e : i = j
                    · rw [e, ← HP.out] at q; exact q1 q.1
                    · exact HD.out i (by omega) q⟩
                  case measure => simp [intOf]; omega
              · obtain rfl : j = k := by omega
                have hmt : Hid (MayAt l j (tg l j)) := by
                  rw [← HT.out]
                  exact Lib.hid ⟨rfl, by show 1 ≤ nm.size; omega, by show nm.size ≤ 300; omega, HC4.out, by show 0 ≤ par; omega, by show par ≤ (j : Int); omega, fun i hi q => HD.out i hi q⟩
                go_wp2
                go_roundw
                case rel => exact ⟨j + 1, by omega, by go_num, below_drewN B2.out _, fun i hi => by
                  by_cases e : i = j
                  · rw [e]; exact hmt.out
                  · exact HR.out i (by omega)⟩
                case measure => simp [intOf]; omega
          · have hm := Lib.hid (HM.out fun q => c4 q.root)
            have t4 : ((par == 0) == ((k : Int) == 0)) = false := by
              by_cases q : k = 0
              · have e : ¬ par = 0 := fun e => c4 ⟨fun _ => q, fun _ => e⟩
                rw [beq_eq_false_iff_ne.2 e, q]; rfl
              · have e : par = 0 := Classical.byContradiction fun e => c4 ⟨fun h => absurd h e, fun h => absurd h q⟩
                rw [e, beq_eq_false_iff_ne.2 (by omega : (k : Int) ≠ 0)]; rfl
            clear c4
            go_wp2
            go_ret
            exact ⟨ret_bool hm.out.symm, HB.out.alloc HB.out.size _⟩
        · have hm := Lib.hid (HM.out fun q => c1 q.id)
          have t1 : (id != (k : Int) + 1) = true := by simpa using c1
          go_wp2
          go_ret
          exact ⟨ret_bool hm.out.symm, HB.out.alloc HB.out.size _⟩
      · have e : k = n := by omega
        subst e
        have hm := Lib.hid (mayC_yes (l := l) ⟨by rw [← HN.out]; omega, fun i hi => HR.out i (by rw [HN.out]; exact hi)⟩)
        go_wp2
        go_ret
        exact ⟨ret_bool (by rw [hm.out]; first | rfl | (simp; omega)), HB.out⟩
  · have hm := Lib.hid (mayC_no (l := l) fun m => by have := m.few; rw [← HN.out] at this; omega)
    go_enter Tryd.func18, Tryd.ntmps18
    go_wp2
    refine wp_loop_rounds 1 ?_
    rw [rounds_succ]
    go_wp2
    go_ret
    exact ⟨ret_bool (by rw [hm.out]; first | rfl | (simp; omega)), Below.refl _ _⟩
end Go.Proofs.YtjpmglnhnfnmnaaDoor
