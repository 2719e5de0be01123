/- Contracts: which lists may be, by the program's own code. -/
import Derived.Test.YtjpmglnhnfnmnaaDoorOa
namespace Go.Proofs.YtjpmglnhnfnmnaaDoor
open Go.RowKit Slices

theorem mayAt_of {l : List Ten} {k : Nat} {t : Ten} (c1 : t.id = (k : Int) + 1) (c2 : ParOk t.par k) (c3 : 1 ≤ t.nm.size ∧ t.nm.size ≤ 300) (c4 : ¬ KidN l k t.par t.nm) : MayAt l k t :=
  ⟨c1, c3.1, c3.2, c2.1, c2.2.1, c2.2.2, fun i hi q => c4 ⟨i, hi, q⟩⟩
theorem mayAt_par {l : List Ten} {k : Nat} {t : Ten} (q : MayAt l k t) : ParOk t.par k := ⟨q.root, q.par0, q.par1⟩
theorem mayAt_kid {l : List Ten} {k : Nat} {t : Ten} (q : MayAt l k t) : ¬ KidN l k t.par t.nm := fun ⟨i, hi, h⟩ => q.apart i hi h

/-- a region that writes nothing, operation by operation (a structure, so that nothing unfolds it) -/
structure Stp (P : Program) (ops : Array Oper) (w : World) (Q : Act → Prop) (rest : List Oper) (a : Act) : Prop where
  out : wpStill P ops w Q rest a
theorem Stp.run {P : Program} {ops : Array Oper} {w : World} {Q : Act → Prop} {a : Act} {o : Oper} {rest : List Oper} (hw : Region.wanted o (yielded ops a.tmps) = true)
    (h : ∀ K : Act → Prop, (∀ a, Stp P ops w Q rest a → K a) → o.still P a w K) : Stp P ops w Q (o :: rest) a := by
  refine ⟨?_⟩
  unfold wpStill
  rw [if_pos hw]
  exact h _ fun _ h => h.out
theorem Stp.skip {P : Program} {ops : Array Oper} {w : World} {Q : Act → Prop} {a : Act} {o : Oper} {rest : List Oper} (hw : Region.wanted o (yielded ops a.tmps) = false)
    (h : Stp P ops w Q rest (a.put o.dst undef)) : Stp P ops w Q (o :: rest) a := by
  refine ⟨?_⟩
  unfold wpStill
  rw [if_neg (by rw [hw]; decide)]
  exact h.out
theorem Stp.nil {P : Program} {ops : Array Oper} {w : World} {Q : Act → Prop} {a : Act} (h : Q a) : Stp P ops w Q [] a := ⟨wpStill_nil h⟩

set_option maxRecDepth 100000 in
set_option maxHeartbeats 8000000 in
theorem pMay_any (A : Option Addr) (n c : Nat) (l : List Ten) (w : World) (h : RdT w A n c l) :
    Calls Tryd.prog 17 #[.slice A n c] w fun e w' => e = .returned (.bool (mayC l)) ∧ Below w.heap.size w w' := by
  have HN := Lib.hid h.len
  have H := Lib.hid h
  have few := h.few
  have hcap := h.cap
  clear h
  by_cases h8 : n ≤ 8
  · go_enter Tryd.func17, Tryd.ntmps17
    go_wp2
    go_loopw [3, 4, 10] (fun _ _ i wr => ∃ k : Nat, k ≤ n ∧ i = .int .i64 k ∧ Below w.heap.size w wr ∧ ∀ j, j < k → MayAt l j (tg l j)) (fun _ _ i _ => n - (intOf i).toNat)
    case atStart => exact ⟨0, by omega, rfl, Below.refl _ _, fun j hj => by cases hj⟩
    case round =>
      obtain ⟨k, hk, rfl, hb, hr⟩ := hrel
      have HB := Lib.hid hb
      have HR := Lib.hid hr
      clear hb hr
      by_cases hlt : k < n
      · obtain ⟨a, rfl, hab, a0, a1, a2⟩ := (H.out.next HB.out).has.at (k := k) (by rw [← HN.out]; exact hlt)
        obtain ⟨t, ht⟩ : ∃ t, t = tg l k := ⟨_, rfl⟩
        rw [← ht] at a0 a1 a2
        obtain ⟨f0, f1, f2⟩ := H.out.fit k hlt
        rw [← ht] at f0 f1 f2
        rw [← add_add3 a (k * 3) 1] at a1
        rw [← add_add3 a (k * 3) 2] at a2
        have a1' : wr.cell? ⟨(a.add (k * 3)).block, (a.add (k * 3)).off + 1, none⟩ = some (.int .i64 t.par) := a1
        have a2' : wr.cell? ⟨(a.add (k * 3)).block, (a.add (k * 3)).off + 2, none⟩ = some (.string t.nm) := a2
        have HT := Lib.hid ht
        have HF2 := Lib.hid f2
        clear a1 a2 ht f0 f1 f2
        have HM : Hid (¬ MayAt l k t → mayC l = false) := fun hb => mayC_no fun m => by
          have q := m.each k (by rw [← HN.out]; exact hlt)
          rw [← HT.out] at q
          exact hb q
        have hW : Hid (RdT (wr.alloc (.cells #[.int .i64 t.id, .int .i64 t.par, .string t.nm] 46)) (some a) n c l) := H.out.next (HB.out.alloc HB.out.size _)
        have B2 : Hid (Below w.heap.size w (wr.alloc (.cells #[.int .i64 t.id, .int .i64 t.par, .string t.nm] 46))) := HB.out.alloc HB.out.size _
        obtain ⟨id, par, nm⟩ := t
        simp only at a0 a1' a2' hW B2 HF2
        have C0 : (wr.alloc (.cells #[.int .i64 id, .int .i64 par, .string nm] 46)).cell? ⟨wr.heap.size, 0, none⟩ = some (.int .i64 id) := by simp
        have C1 : (wr.alloc (.cells #[.int .i64 id, .int .i64 par, .string nm] 46)).cell? ⟨wr.heap.size, 1, none⟩ = some (.int .i64 par) := by simp
        have C2 : (wr.alloc (.cells #[.int .i64 id, .int .i64 par, .string nm] 46)).cell? ⟨wr.heap.size, 2, none⟩ = some (.string nm) := by simp
        have HC0 := Lib.hid C0
        have HC1 := Lib.hid C1
        have HC2 := Lib.hid C2
        clear C0 C1 C2
        go_wp2_with fail
        clear a0 a1' a2'
        generalize wr.alloc (.cells #[.int .i64 id, .int .i64 par, .string nm] 46) = W at hW B2 HC0 HC1 HC2 ⊢
        generalize wr.heap.size = g at HC0 HC1 HC2 ⊢
        refine wp_region_still_tail 26 (by kernel_rfl) (by kernel_rfl) ?_
        simp only [List.take_succ_cons, List.take_zero, List.drop_succ_cons, List.drop_zero]
        change wpStill _ _ (World.drew _) (fun a' => wpList _ _ _ _ a' (World.drew _)) _ _
        obtain ⟨W2, hW2⟩ : ∃ W2, W2 = World.drew W := ⟨_, rfl⟩
        have B3 : Hid (Below w.heap.size w W2) := by rw [hW2]; exact B2.out.drew
        have R3 : Hid (RdT W2 (some a) n c l) := by rw [hW2]; exact hW.out.drewN 1
        have d0 : W2.cell? ⟨g, 0, none⟩ = some (.int .i64 id) := by rw [hW2]; exact HC0.out
        have d1 : W2.cell? ⟨g, 1, none⟩ = some (.int .i64 par) := by rw [hW2]; exact HC1.out
        have d2 : W2.cell? ⟨g, 2, none⟩ = some (.string nm) := by rw [hW2]; exact HC2.out
        rw [← hW2]
        refine Stp.out ?_
        clear hW2 HC0 HC1 HC2 B2 hW
        have wq : IntKind.i64.wrap ((k : Int) + 1) = (k : Int) + 1 := IntWalk.i64_in _ (by omega)
        by_cases c1 : id = (k : Int) + 1
        · subst c1
          have t1 : (((k : Int) + 1) != (k : Int) + 1) = false := by simp
          have mp := mayParent_any par k W2 (by omega)
          by_cases c2 : ParOk par k
          · rw [decide_eq_true c2] at mp
            have HC2 := Lib.hid c2
            have HP := Lib.hid mp
            clear c2 mp
            have mn := mayName_any nm W2 HF2.out
            by_cases c3 : 1 ≤ nm.size ∧ nm.size ≤ 300
            · rw [decide_eq_true c3] at mn
              have HC3 := Lib.hid c3
              have HNM := Lib.hid mn
              clear c3 mn
              have s1 : (0 : Int) ≤ (k : Int) := by omega
              have s2 : (k : Int) ≤ (c : Int) := by omega
              have hcall := hasChild_any (some a) k c l par nm W2 R3.out.has (by rw [← HN.out]; omega) (by rw [← HN.out]; omega)
              by_cases c4 : KidN l k par nm
              · rw [kidC_yes c4] at hcall
                have HK := Lib.hid hcall
                have hm := Lib.hid (HM.out fun q => mayAt_kid q c4)
                clear c4 hcall
                repeat (first | (refine Stp.skip rfl ?_) | (refine Stp.run rfl (fun K hK => ?_); go_simp; refine hK _ ?_; clear hK K))
                (refine Stp.run rfl (fun K hK => ?_); go_simp; refine ⟨_, still_eq HP.out, hK _ ?_⟩; clear hK K)
                repeat (first | (refine Stp.skip rfl ?_) | (refine Stp.run rfl (fun K hK => ?_); go_simp; refine hK _ ?_; clear hK K))
                (refine Stp.run rfl (fun K hK => ?_); go_simp; refine ⟨_, still_eq HNM.out, hK _ ?_⟩; clear hK K)
                repeat (first | (refine Stp.skip rfl ?_) | (refine Stp.run rfl (fun K hK => ?_); go_simp; refine hK _ ?_; clear hK K))
                refine Stp.nil ?_
                go_wp2_with (go_at_call 33; refine HK.out.mono ?_; rintro e w' ⟨rfl, hb'⟩)
                go_ret
                exact ⟨ret_bool hm.out.symm, below_next B3.out hb'⟩
              · rw [kidC_no c4] at hcall
                have HK := Lib.hid hcall
                have hmt : Hid (MayAt l k (tg l k)) := by
                  rw [← HT.out]
                  exact Lib.hid (mayAt_of rfl HC2.out HC3.out c4)
                clear c4 hcall
                repeat (first | (refine Stp.skip rfl ?_) | (refine Stp.run rfl (fun K hK => ?_); go_simp; refine hK _ ?_; clear hK K))
                (refine Stp.run rfl (fun K hK => ?_); go_simp; refine ⟨_, still_eq HP.out, hK _ ?_⟩; clear hK K)
                repeat (first | (refine Stp.skip rfl ?_) | (refine Stp.run rfl (fun K hK => ?_); go_simp; refine hK _ ?_; clear hK K))
                (refine Stp.run rfl (fun K hK => ?_); go_simp; refine ⟨_, still_eq HNM.out, hK _ ?_⟩; clear hK K)
                repeat (first | (refine Stp.skip rfl ?_) | (refine Stp.run rfl (fun K hK => ?_); go_simp; refine hK _ ?_; clear hK K))
                refine Stp.nil ?_
                go_wp2_with (go_at_call 33; refine HK.out.mono ?_; rintro e w' ⟨rfl, hb'⟩)
                go_roundw
                case rel => exact ⟨k + 1, by omega, by go_num, below_next B3.out hb', fun i hi => by
                  by_cases e : i = k
                  · rw [e]; exact hmt.out
                  · exact HR.out i (by omega)⟩
                case measure => simp [intOf]; omega
            · rw [decide_eq_false c3] at mn
              have HNM := Lib.hid mn
              have hm := Lib.hid (HM.out fun q => c3 ⟨q.lo, q.hi⟩)
              clear c3 mn
              repeat (first | (refine Stp.skip rfl ?_) | (refine Stp.run rfl (fun K hK => ?_); go_simp; refine hK _ ?_; clear hK K))
              (refine Stp.run rfl (fun K hK => ?_); go_simp; refine ⟨_, still_eq HP.out, hK _ ?_⟩; clear hK K)
              repeat (first | (refine Stp.skip rfl ?_) | (refine Stp.run rfl (fun K hK => ?_); go_simp; refine hK _ ?_; clear hK K))
              (refine Stp.run rfl (fun K hK => ?_); go_simp; refine ⟨_, still_eq HNM.out, hK _ ?_⟩; clear hK K)
              repeat (first | (refine Stp.skip rfl ?_) | (refine Stp.run rfl (fun K hK => ?_); go_simp; refine hK _ ?_; clear hK K))
              refine Stp.nil ?_
              go_wp2
              go_ret
              exact ⟨ret_bool hm.out.symm, B3.out⟩
          · rw [decide_eq_false c2] at mp
            have HP := Lib.hid mp
            have hm := Lib.hid (HM.out fun q => c2 (mayAt_par q))
            clear c2 mp
            repeat (first | (refine Stp.skip rfl ?_) | (refine Stp.run rfl (fun K hK => ?_); go_simp; refine hK _ ?_; clear hK K))
            (refine Stp.run rfl (fun K hK => ?_); go_simp; refine ⟨_, still_eq HP.out, hK _ ?_⟩; clear hK K)
            repeat (first | (refine Stp.skip rfl ?_) | (refine Stp.run rfl (fun K hK => ?_); go_simp; refine hK _ ?_; clear hK K))
            refine Stp.nil ?_
            go_wp2
            go_ret
            exact ⟨ret_bool hm.out.symm, B3.out⟩
        · have t1 : (id != (k : Int) + 1) = true := by simpa using c1
          have hm := Lib.hid (HM.out fun q => c1 q.id)
          repeat (first | (refine Stp.skip rfl ?_) | (refine Stp.run rfl (fun K hK => ?_); go_simp; refine hK _ ?_; clear hK K))
          refine Stp.nil ?_
          go_wp2
          go_ret
          exact ⟨ret_bool hm.out.symm, B3.out⟩
      · have e : k = n := by omega
        subst e
        have hm := Lib.hid (mayC_yes (l := l) ⟨by rw [← HN.out]; omega, fun i hi => HR.out i (by rw [HN.out]; exact hi)⟩)
        go_wp2
        go_ret
        exact ⟨ret_bool hm.out.symm, HB.out⟩
  · have hm := Lib.hid (mayC_no (l := l) fun m => by have := m.few; rw [← HN.out] at this; omega)
    go_enter Tryd.func17, Tryd.ntmps17
    go_wp2
    go_ret
    exact ⟨ret_bool hm.out.symm, Below.refl _ _⟩
end Go.Proofs.YtjpmglnhnfnmnaaDoor
