/- The law AskApart, walked. -/
import Derived.Test.YtidpihpddkfhgaaDoorAk
namespace Go.Proofs.YtidpihpddkfhgaaDoor
open Go.RowKit Slices Go.Proofs.YtidpihpddkfhgaaDoor.Bit

/-- requests that may be have the same body only if they are the same -/
theorem laid_same {a b : AskV} (ha : MayA a) (hb : MayA b) : decide (laidA a = laidA b) = sameV a b := by
  by_cases h : a = b
  · subst h
    rw [sameV_self]
    exact decide_eq_true rfl
  · rw [sameV_no h]
    refine decide_eq_false fun e => h ?_
    have h1 := may_takes ha
    rw [e, may_takes hb] at h1
    injection h1 with h1
    exact h1.symm
theorem sameV_comm (a b : AskV) : sameV a b = sameV b a := by
  by_cases h : a = b
  · subst h; rfl
  · rw [sameV_no h, sameV_no (fun e => h e.symm)]
/-- an error that is there -/
theorem err_there {c : Int} {v : Value} {w : World} (h : IsErr c v w) (h0 : c ≠ 0) : ∃ q : Nat, v = .iface 76 (.pointer (some ⟨q, 0, none⟩)) := by
  rcases h with h | ⟨_, q, p, hv, _⟩
  · exact absurd h.1 h0
  · exact ⟨q, hv⟩

set_option maxRecDepth 100000 in
set_option maxHeartbeats 8000000 in
theorem askApart_any (P : AskOk) (a b : AskV) (A1 A2 D1 D2 : Option Addr) (c1 c2 d1 d2 : Nat) (w : World) (h : AskIn w w.heap.size a A1 c1 A2 c2) (h' : AskIn w w.heap.size b D1 d1 D2 d2) (wa : WideA a) (wb : WideA b) (hg : Han w) :
    Calls Tryd.prog 5 #[.agg (askVals a A1 c1 A2 c2), .agg (askVals b D1 d1 D2 d2)] w fun e w' => e = .returned (.bool true) ∧ Below w.heap.size w w' := by
  have HI : Hid ((Tryd.prog.info? 24).map (·.size) = some 14) := by show _ = _; kernel_rfl
  have HG := Lib.hid hg
  have H1 := Lib.hid h
  have H2 := Lib.hid h'
  have HWa := Lib.hid wa
  have HWb := Lib.hid wb
  clear hg h h' wa wb
  obtain ⟨V, hV⟩ : ∃ V, V = askVals a A1 c1 A2 c2 := ⟨_, rfl⟩
  obtain ⟨U, hU⟩ : ∃ U, U = askVals b D1 d1 D2 d2 := ⟨_, rfl⟩
  have HV : Hid (V = askVals a A1 c1 A2 c2) := hV
  have HU : Hid (U = askVals b D1 d1 D2 d2) := hU
  have HVs : Hid (some V.size = some 14) := by show _ = _; rw [hV]; rfl
  have HUs : Hid (some U.size = some 14) := by show _ = _; rw [hU]; rfl
  rw [← hV, ← hU]
  clear hV hU
  go_enter Tryd.func5, Tryd.ntmps5
  have HRa := Lib.hid (box_row w V 24 (.cells U 24))
  have HRb := Lib.hid (box_row2 w (.cells V 24) U 24)
  go_wp2_with (refine wpList_load_row rfl 24 _ rfl w.heap.size rfl 24 _ (0, 0) _ HRa.out Tryd.underlying24 rfl (by rw [HVs.out]; exact HI.out) ?_)
  have B0 := Lib.hid (below_box w (.cells V 24) (.cells U 24))
  refine (greatA_V HV.out _).mono ?_
  rintro e w1 ⟨rfl, hb⟩
  have B1 := Lib.hid (below_next B0.out hb)
  have HRa1 := Lib.hid (row_below HRa.out hb)
  have HRb1 := Lib.hid (row_below HRb.out hb)
  clear hb HRa HRb B0
  obtain ⟨ga, hga⟩ : ∃ ga, ga = w.heap.size := ⟨_, rfl⟩
  obtain ⟨gb, hgb⟩ : ∃ gb, gb = w.heap.size + 1 := ⟨_, rfl⟩
  rw [← hga] at HRa1
  rw [← hgb] at HRb1
  rw [← hgb, ← hga]
  clear hga hgb
  by_cases ta : greatB a = true
  · go_wp2_with fail
    refine (awake_any P _ (Han.below HG.out B1.out)).mono ?_
    rintro e w2 ⟨rfl, hb⟩
    have B2 := Lib.hid (below_next B1.out hb)
    clear hb
    go_wp2
    go_ret
    exact ⟨rfl, B2.out⟩
  · have ta' : greatB a = false := by simpa using ta
    have HSa := Lib.hid (great_no ta')
    clear ta
    go_wp2_with (refine load_row_on rfl 24 _ rfl gb rfl 24 _ (0, 0) _ HRb1.out Tryd.underlying24 rfl (by rw [HUs.out]; exact HI.out) ?_)
    refine (greatA_V HU.out _).mono ?_
    rintro e w2 ⟨rfl, hb⟩
    have B2 := Lib.hid (below_next B1.out hb)
    have HRa2 := Lib.hid (row_below HRa1.out hb)
    have HRb2 := Lib.hid (row_below HRb1.out hb)
    clear hb HRa1 HRb1 B1
    by_cases tb : greatB b = true
    · go_wp2_with fail
      refine (awake_any P _ (Han.below HG.out B2.out)).mono ?_
      rintro e w3 ⟨rfl, hb⟩
      have B3 := Lib.hid (below_next B2.out hb)
      clear hb
      go_wp2
      go_ret
      exact ⟨rfl, B3.out⟩
    · have tb' : greatB b = false := by simpa using tb
      have HSb := Lib.hid (great_no tb')
      clear tb
      go_wp2_with (refine wpList_load_row rfl 24 _ rfl ga rfl 24 _ (0, 0) _ HRa2.out Tryd.underlying24 rfl (by rw [HVs.out]; exact HI.out) ?_)
      rw [HV.out]
      refine (P.body a A1 c1 A2 c2 _ (H1.out.next B2.out) HSa.out HWa.out).mono ?_
      rw [← HV.out]
      rintro e w3 ⟨X, nx, cx, v, rfl, hb, hq⟩
      have HQ := Lib.hid hq
      have B3 := Lib.hid (below_next B2.out hb)
      have HRa3 := Lib.hid (row_below HRa2.out hb)
      have HRb3 := Lib.hid (row_below HRb2.out hb)
      clear hb hq HRa2 HRb2 B2
      go_wp2_with (refine wpList_load_row rfl 24 _ rfl gb rfl 24 _ (0, 0) _ HRb3.out Tryd.underlying24 rfl (by rw [HUs.out]; exact HI.out) ?_)
      rw [HU.out]
      refine (P.body b D1 d1 D2 d2 _ (H2.out.next B3.out) HSb.out HWb.out).mono ?_
      rw [← HU.out]
      rintro e W0 ⟨Y, ny, cy, u, rfl, hb, hq2⟩
      have B4 := Lib.hid (below_next B3.out hb)
      have HRa4 := Lib.hid (row_below HRa3.out hb)
      have HRb4 := Lib.hid (row_below HRb3.out hb)
      have HB34 := Lib.hid hb
      have HQ2 := Lib.hid hq2
      clear hb hq2 HRa3 HRb3 B3
      have hVL : V = #[.int .i64 a.who, .int .i64 a.nonce, .int .i64 a.op, .int .i64 a.tenant, .int .i64 a.key, .int .i64 a.version, .int .i64 a.set, .int .i64 a.grant, .int .i64 a.to, .int .i64 a.ops, .int .i64 a.till, .string a.name, .slice A1 a.bytes.length c1, .slice A2 a.token.length c2] := HV.out
      have hUL : U = #[.int .i64 b.who, .int .i64 b.nonce, .int .i64 b.op, .int .i64 b.tenant, .int .i64 b.key, .int .i64 b.version, .int .i64 b.set, .int .i64 b.grant, .int .i64 b.to, .int .i64 b.ops, .int .i64 b.till, .string b.name, .slice D1 b.bytes.length d1, .slice D2 b.token.length d2] := HU.out
      have C3 : Hid (∀ W, Below W0.heap.size W0 W → Calls Tryd.prog 12 #[.agg V] W fun e w' => e = .returned (.bool (decide (MayA a))) ∧ Below W.heap.size W w') := fun W hb => by rw [HV.out]; exact P.may a A1 c1 A2 c2 W (H1.out.next (below_next B4.out hb)) HSa.out
      have C4 : Hid (∀ W, Below W0.heap.size W0 W → Calls Tryd.prog 12 #[.agg U] W fun e w' => e = .returned (.bool (decide (MayA b))) ∧ Below W.heap.size W w') := fun W hb => by rw [HU.out]; exact P.may b D1 d1 D2 d2 W (H2.out.next (below_next B4.out hb)) HSb.out
      have C5 : Hid (∀ W, Below W0.heap.size W0 W → Calls Tryd.prog 14 #[.agg V, .agg U] W fun e w' => e = .returned (.bool (sameV a b)) ∧ Below W.heap.size W w') := fun W hb => by rw [HV.out, HU.out]; exact P.same a b A1 c1 A2 c2 D1 d1 D2 d2 W (H1.out.next (below_next B4.out hb)) (H2.out.next (below_next B4.out hb)) HSa.out HSb.out HWa.out HWb.out
      have C6 : Hid (∀ W, Below W0.heap.size W0 W → Calls Tryd.prog 14 #[.agg U, .agg V] W fun e w' => e = .returned (.bool (sameV a b)) ∧ Below W.heap.size W w') := fun W hb => by rw [HV.out, HU.out, sameV_comm a b]; exact P.same b a D1 d1 D2 d2 A1 c1 A2 c2 W (H2.out.next (below_next B4.out hb)) (H1.out.next (below_next B4.out hb)) HSb.out HSa.out HWb.out HWa.out
      have C8 : Hid (∀ W, Below W0.heap.size W0 W → Calls Tryd.prog 7 #[] W fun e w' => e = .returned (.bool true) ∧ Below W.heap.size W w') := fun W hb => awake_any P W (Han.below (Han.below HG.out B4.out) hb)
      rw [hVL] at C3 C5 C6 HRa4
      rw [hUL] at C4 C5 C6 HRb4
      have HF : Hid (∀ W, Below W0.heap.size W0 W → Below W0.heap.size W0 W ∧ W.cell? ⟨ga, 0, none⟩ = some (.int .i64 a.who) ∧ W.cell? ⟨ga, 1, none⟩ = some (.int .i64 a.nonce) ∧ W.cell? ⟨ga, 2, none⟩ = some (.int .i64 a.op) ∧ W.cell? ⟨ga, 3, none⟩ = some (.int .i64 a.tenant) ∧ W.cell? ⟨ga, 4, none⟩ = some (.int .i64 a.key) ∧ W.cell? ⟨ga, 5, none⟩ = some (.int .i64 a.version) ∧ W.cell? ⟨ga, 6, none⟩ = some (.int .i64 a.set) ∧ W.cell? ⟨ga, 7, none⟩ = some (.int .i64 a.grant) ∧ W.cell? ⟨ga, 8, none⟩ = some (.int .i64 a.to) ∧ W.cell? ⟨ga, 9, none⟩ = some (.int .i64 a.ops) ∧ W.cell? ⟨ga, 10, none⟩ = some (.int .i64 a.till) ∧ W.cell? ⟨ga, 11, none⟩ = some (.string a.name) ∧ W.cell? ⟨ga, 12, none⟩ = some (.slice A1 a.bytes.length c1) ∧ W.cell? ⟨ga, 13, none⟩ = some (.slice A2 a.token.length c2) ∧ W.cell? ⟨gb, 0, none⟩ = some (.int .i64 b.who) ∧ W.cell? ⟨gb, 1, none⟩ = some (.int .i64 b.nonce) ∧ W.cell? ⟨gb, 2, none⟩ = some (.int .i64 b.op) ∧ W.cell? ⟨gb, 3, none⟩ = some (.int .i64 b.tenant) ∧ W.cell? ⟨gb, 4, none⟩ = some (.int .i64 b.key) ∧ W.cell? ⟨gb, 5, none⟩ = some (.int .i64 b.version) ∧ W.cell? ⟨gb, 6, none⟩ = some (.int .i64 b.set) ∧ W.cell? ⟨gb, 7, none⟩ = some (.int .i64 b.grant) ∧ W.cell? ⟨gb, 8, none⟩ = some (.int .i64 b.to) ∧ W.cell? ⟨gb, 9, none⟩ = some (.int .i64 b.ops) ∧ W.cell? ⟨gb, 10, none⟩ = some (.int .i64 b.till) ∧ W.cell? ⟨gb, 11, none⟩ = some (.string b.name) ∧ W.cell? ⟨gb, 12, none⟩ = some (.slice D1 b.bytes.length d1) ∧ W.cell? ⟨gb, 13, none⟩ = some (.slice D2 b.token.length d2)) := fun W hb => ⟨hb, cell_of_row _ _ 0 _ _ _ (row_below HRa4.out hb), cell_of_row _ _ 1 _ _ _ (row_below HRa4.out hb), cell_of_row _ _ 2 _ _ _ (row_below HRa4.out hb), cell_of_row _ _ 3 _ _ _ (row_below HRa4.out hb), cell_of_row _ _ 4 _ _ _ (row_below HRa4.out hb), cell_of_row _ _ 5 _ _ _ (row_below HRa4.out hb), cell_of_row _ _ 6 _ _ _ (row_below HRa4.out hb), cell_of_row _ _ 7 _ _ _ (row_below HRa4.out hb), cell_of_row _ _ 8 _ _ _ (row_below HRa4.out hb), cell_of_row _ _ 9 _ _ _ (row_below HRa4.out hb), cell_of_row _ _ 10 _ _ _ (row_below HRa4.out hb), cell_of_row _ _ 11 _ _ _ (row_below HRa4.out hb), cell_of_row _ _ 12 _ _ _ (row_below HRa4.out hb), cell_of_row _ _ 13 _ _ _ (row_below HRa4.out hb), cell_of_row _ _ 0 _ _ _ (row_below HRb4.out hb), cell_of_row _ _ 1 _ _ _ (row_below HRb4.out hb), cell_of_row _ _ 2 _ _ _ (row_below HRb4.out hb), cell_of_row _ _ 3 _ _ _ (row_below HRb4.out hb), cell_of_row _ _ 4 _ _ _ (row_below HRb4.out hb), cell_of_row _ _ 5 _ _ _ (row_below HRb4.out hb), cell_of_row _ _ 6 _ _ _ (row_below HRb4.out hb), cell_of_row _ _ 7 _ _ _ (row_below HRb4.out hb), cell_of_row _ _ 8 _ _ _ (row_below HRb4.out hb), cell_of_row _ _ 9 _ _ _ (row_below HRb4.out hb), cell_of_row _ _ 10 _ _ _ (row_below HRb4.out hb), cell_of_row _ _ 11 _ _ _ (row_below HRb4.out hb), cell_of_row _ _ 12 _ _ _ (row_below HRb4.out hb), cell_of_row _ _ 13 _ _ _ (row_below HRb4.out hb)⟩
      obtain ⟨_, p0, p1, p2, p3, p4, p5, p6, p7, p8, p9, p10, p11, p12, p13, r0, r1, r2, r3, r4, r5, r6, r7, r8, r9, r10, r11, r12, r13⟩ := HF.out _ (Below.refl _ _)
      have D0 : Below W0.heap.size W0 W0 := Below.refl _ _
      have D1' : Below W0.heap.size W0 W0.drew := (Below.refl _ _).drew
      obtain ⟨s0, s1, s2⟩ := HSa.out
      clear hVL hUL
      rcases HQ.out with ⟨ma, hv, hnx, hox⟩ | ⟨ma, hev, hnx⟩
      · rcases HQ2.out with ⟨mb, hu, hny, hoy⟩ | ⟨mb, heu, hny⟩
        · subst hv
          subst hu
          rw [decide_eq_true ma] at C3
          rw [decide_eq_true mb] at C4
          have HT : Hid (decide (laidA a = laidA b) = sameV a b) := laid_same ma mb
          have HXx : Hid (Has .u8 W0 W0.heap.size X (laidA a)) := has_next (own_readn hnx hox) HB34.out
          have HYy : Hid (Has .u8 W0 W0.heap.size Y (laidA b)) := own_readn hny hoy
          have HNX := Lib.hid hnx
          have HNY := Lib.hid hny
          have lx : nx ≤ 40000 := by rw [hnx, laidA_len]; have := may_small ma; omega
          have ly : ny ≤ 40000 := by rw [hny, laidA_len]; have := may_small mb; omega
          have C1 : Hid (∀ W, Below W0.heap.size W0 W → Calls Tryd.prog 10 #[.slice X nx cx, .slice Y ny cy] W fun e w' => e = .returned (.bool (sameV a b)) ∧ Below W.heap.size W w') := fun W hb => by
            rw [← HT.out]
            exact sameB_dec X Y cx cy nx ny (laidA a) (laidA b) W HNX.out HNY.out (by omega) (by omega) (has_next HXx.out hb) (has_next HYy.out hb)
          have hlen : ((nx : Int) == 112 + (a.name.size : Int) + (a.bytes.length : Int) + (a.token.length : Int)) = true := by
            rw [beq_iff_eq, hnx, laidA_len]
            omega
          have k1 : IntKind.i64.wrap (112 + (a.name.size : Int)) = 112 + (a.name.size : Int) := by rw [IntKind.wrap_i64]; omega
          have k2 : IntKind.i64.wrap (112 + (a.name.size : Int) + (a.bytes.length : Int)) = 112 + (a.name.size : Int) + (a.bytes.length : Int) := by rw [IntKind.wrap_i64]; omega
          have k3 : IntKind.i64.wrap (112 + (a.name.size : Int) + (a.bytes.length : Int) + (a.token.length : Int)) = 112 + (a.name.size : Int) + (a.bytes.length : Int) + (a.token.length : Int) := by rw [IntKind.wrap_i64]; omega
          obtain ⟨T, hTT⟩ : ∃ T, T = sameV a b := ⟨_, rfl⟩
          rw [← hTT] at C1 C5 C6
          clear hnx hny hox hoy ma mb hTT
          go_wp2
          go_region_held3 (fun W => Below W0.heap.size W0 W ∧ W.cell? ⟨ga, 0, none⟩ = some (.int .i64 a.who) ∧ W.cell? ⟨ga, 1, none⟩ = some (.int .i64 a.nonce) ∧ W.cell? ⟨ga, 2, none⟩ = some (.int .i64 a.op) ∧ W.cell? ⟨ga, 3, none⟩ = some (.int .i64 a.tenant) ∧ W.cell? ⟨ga, 4, none⟩ = some (.int .i64 a.key) ∧ W.cell? ⟨ga, 5, none⟩ = some (.int .i64 a.version) ∧ W.cell? ⟨ga, 6, none⟩ = some (.int .i64 a.set) ∧ W.cell? ⟨ga, 7, none⟩ = some (.int .i64 a.grant) ∧ W.cell? ⟨ga, 8, none⟩ = some (.int .i64 a.to) ∧ W.cell? ⟨ga, 9, none⟩ = some (.int .i64 a.ops) ∧ W.cell? ⟨ga, 10, none⟩ = some (.int .i64 a.till) ∧ W.cell? ⟨ga, 11, none⟩ = some (.string a.name) ∧ W.cell? ⟨ga, 12, none⟩ = some (.slice A1 a.bytes.length c1) ∧ W.cell? ⟨ga, 13, none⟩ = some (.slice A2 a.token.length c2) ∧ W.cell? ⟨gb, 0, none⟩ = some (.int .i64 b.who) ∧ W.cell? ⟨gb, 1, none⟩ = some (.int .i64 b.nonce) ∧ W.cell? ⟨gb, 2, none⟩ = some (.int .i64 b.op) ∧ W.cell? ⟨gb, 3, none⟩ = some (.int .i64 b.tenant) ∧ W.cell? ⟨gb, 4, none⟩ = some (.int .i64 b.key) ∧ W.cell? ⟨gb, 5, none⟩ = some (.int .i64 b.version) ∧ W.cell? ⟨gb, 6, none⟩ = some (.int .i64 b.set) ∧ W.cell? ⟨gb, 7, none⟩ = some (.int .i64 b.grant) ∧ W.cell? ⟨gb, 8, none⟩ = some (.int .i64 b.to) ∧ W.cell? ⟨gb, 9, none⟩ = some (.int .i64 b.ops) ∧ W.cell? ⟨gb, 10, none⟩ = some (.int .i64 b.till) ∧ W.cell? ⟨gb, 11, none⟩ = some (.string b.name) ∧ W.cell? ⟨gb, 12, none⟩ = some (.slice D1 b.bytes.length d1) ∧ W.cell? ⟨gb, 13, none⟩ = some (.slice D2 b.token.length d2))
            (first
              | (refine HF.out _ ?_; first | assumption | exact Below.drew (by assumption)))
            (first
              | (go_at_call 12; (with_reducible refine (C3.out _ (by first | assumption | exact Below.drew (by assumption))).mono ?_); rintro e wk ⟨rfl, hb⟩; have hbk := below_next (w0 := W0) (by first | assumption | exact Below.drew (by assumption)) hb)
              | (go_at_call 12; (with_reducible refine (C4.out _ (by first | assumption | exact Below.drew (by assumption))).mono ?_); rintro e wk ⟨rfl, hb⟩; have hbk := below_next (w0 := W0) (by first | assumption | exact Below.drew (by assumption)) hb))
          obtain ⟨_, p0, p1, p2, p3, p4, p5, p6, p7, p8, p9, p10, p11, p12, p13, r0, r1, r2, r3, r4, r5, r6, r7, r8, r9, r10, r11, r12, r13⟩ := HF.out _ hbk
          go_wp2
          go_region_held3 (fun W => Below W0.heap.size W0 W ∧ W.cell? ⟨ga, 0, none⟩ = some (.int .i64 a.who) ∧ W.cell? ⟨ga, 1, none⟩ = some (.int .i64 a.nonce) ∧ W.cell? ⟨ga, 2, none⟩ = some (.int .i64 a.op) ∧ W.cell? ⟨ga, 3, none⟩ = some (.int .i64 a.tenant) ∧ W.cell? ⟨ga, 4, none⟩ = some (.int .i64 a.key) ∧ W.cell? ⟨ga, 5, none⟩ = some (.int .i64 a.version) ∧ W.cell? ⟨ga, 6, none⟩ = some (.int .i64 a.set) ∧ W.cell? ⟨ga, 7, none⟩ = some (.int .i64 a.grant) ∧ W.cell? ⟨ga, 8, none⟩ = some (.int .i64 a.to) ∧ W.cell? ⟨ga, 9, none⟩ = some (.int .i64 a.ops) ∧ W.cell? ⟨ga, 10, none⟩ = some (.int .i64 a.till) ∧ W.cell? ⟨ga, 11, none⟩ = some (.string a.name) ∧ W.cell? ⟨ga, 12, none⟩ = some (.slice A1 a.bytes.length c1) ∧ W.cell? ⟨ga, 13, none⟩ = some (.slice A2 a.token.length c2) ∧ W.cell? ⟨gb, 0, none⟩ = some (.int .i64 b.who) ∧ W.cell? ⟨gb, 1, none⟩ = some (.int .i64 b.nonce) ∧ W.cell? ⟨gb, 2, none⟩ = some (.int .i64 b.op) ∧ W.cell? ⟨gb, 3, none⟩ = some (.int .i64 b.tenant) ∧ W.cell? ⟨gb, 4, none⟩ = some (.int .i64 b.key) ∧ W.cell? ⟨gb, 5, none⟩ = some (.int .i64 b.version) ∧ W.cell? ⟨gb, 6, none⟩ = some (.int .i64 b.set) ∧ W.cell? ⟨gb, 7, none⟩ = some (.int .i64 b.grant) ∧ W.cell? ⟨gb, 8, none⟩ = some (.int .i64 b.to) ∧ W.cell? ⟨gb, 9, none⟩ = some (.int .i64 b.ops) ∧ W.cell? ⟨gb, 10, none⟩ = some (.int .i64 b.till) ∧ W.cell? ⟨gb, 11, none⟩ = some (.string b.name) ∧ W.cell? ⟨gb, 12, none⟩ = some (.slice D1 b.bytes.length d1) ∧ W.cell? ⟨gb, 13, none⟩ = some (.slice D2 b.token.length d2))
            (first
              | (refine HF.out _ ?_; first | assumption | exact Below.drew (by assumption)))
            (first
              | (go_at_call 10; (with_reducible refine (C1.out _ (by first | assumption | exact Below.drew (by assumption))).mono ?_); rintro e wk ⟨rfl, hb⟩; have hbk := below_next (w0 := W0) (by first | assumption | exact Below.drew (by assumption)) hb)
              | (go_at_call 14; (with_reducible refine (C5.out _ (by first | assumption | exact Below.drew (by assumption))).mono ?_); rintro e wk ⟨rfl, hb⟩; have hbk := below_next (w0 := W0) (by first | assumption | exact Below.drew (by assumption)) hb)
              | (go_at_call 14; (with_reducible refine (C6.out _ (by first | assumption | exact Below.drew (by assumption))).mono ?_); rintro e wk ⟨rfl, hb⟩; have hbk := below_next (w0 := W0) (by first | assumption | exact Below.drew (by assumption)) hb)
              | (go_at_call 7; (with_reducible refine (C8.out _ (by first | assumption | exact Below.drew (by assumption))).mono ?_); rintro e wk ⟨rfl, hb⟩; have hbk := below_next (w0 := W0) (by first | assumption | exact Below.drew (by assumption)) hb))
          all_goals
            go_wp2
            go_ret
            exact ⟨rfl, below_next B4.out (by assumption)⟩
        · obtain ⟨q2, hu⟩ := err_there heu (by decide)
          subst hv
          subst hu
          subst hny
          rw [decide_eq_true ma] at C3
          rw [decide_eq_false mb] at C4
          clear hnx hox ma mb heu
          go_wp2
          go_region_held3 (fun W => Below W0.heap.size W0 W ∧ W.cell? ⟨ga, 0, none⟩ = some (.int .i64 a.who) ∧ W.cell? ⟨ga, 1, none⟩ = some (.int .i64 a.nonce) ∧ W.cell? ⟨ga, 2, none⟩ = some (.int .i64 a.op) ∧ W.cell? ⟨ga, 3, none⟩ = some (.int .i64 a.tenant) ∧ W.cell? ⟨ga, 4, none⟩ = some (.int .i64 a.key) ∧ W.cell? ⟨ga, 5, none⟩ = some (.int .i64 a.version) ∧ W.cell? ⟨ga, 6, none⟩ = some (.int .i64 a.set) ∧ W.cell? ⟨ga, 7, none⟩ = some (.int .i64 a.grant) ∧ W.cell? ⟨ga, 8, none⟩ = some (.int .i64 a.to) ∧ W.cell? ⟨ga, 9, none⟩ = some (.int .i64 a.ops) ∧ W.cell? ⟨ga, 10, none⟩ = some (.int .i64 a.till) ∧ W.cell? ⟨ga, 11, none⟩ = some (.string a.name) ∧ W.cell? ⟨ga, 12, none⟩ = some (.slice A1 a.bytes.length c1) ∧ W.cell? ⟨ga, 13, none⟩ = some (.slice A2 a.token.length c2) ∧ W.cell? ⟨gb, 0, none⟩ = some (.int .i64 b.who) ∧ W.cell? ⟨gb, 1, none⟩ = some (.int .i64 b.nonce) ∧ W.cell? ⟨gb, 2, none⟩ = some (.int .i64 b.op) ∧ W.cell? ⟨gb, 3, none⟩ = some (.int .i64 b.tenant) ∧ W.cell? ⟨gb, 4, none⟩ = some (.int .i64 b.key) ∧ W.cell? ⟨gb, 5, none⟩ = some (.int .i64 b.version) ∧ W.cell? ⟨gb, 6, none⟩ = some (.int .i64 b.set) ∧ W.cell? ⟨gb, 7, none⟩ = some (.int .i64 b.grant) ∧ W.cell? ⟨gb, 8, none⟩ = some (.int .i64 b.to) ∧ W.cell? ⟨gb, 9, none⟩ = some (.int .i64 b.ops) ∧ W.cell? ⟨gb, 10, none⟩ = some (.int .i64 b.till) ∧ W.cell? ⟨gb, 11, none⟩ = some (.string b.name) ∧ W.cell? ⟨gb, 12, none⟩ = some (.slice D1 b.bytes.length d1) ∧ W.cell? ⟨gb, 13, none⟩ = some (.slice D2 b.token.length d2))
            (first
              | (refine HF.out _ ?_; first | assumption | exact Below.drew (by assumption)))
            (first
              | (go_at_call 12; (with_reducible refine (C3.out _ (by first | assumption | exact Below.drew (by assumption))).mono ?_); rintro e wk ⟨rfl, hb⟩; have hbk := below_next (w0 := W0) (by first | assumption | exact Below.drew (by assumption)) hb)
              | (go_at_call 12; (with_reducible refine (C4.out _ (by first | assumption | exact Below.drew (by assumption))).mono ?_); rintro e wk ⟨rfl, hb⟩; have hbk := below_next (w0 := W0) (by first | assumption | exact Below.drew (by assumption)) hb))
          have HBK := Lib.hid hbk
          clear hbk
          go_wp2_with fail
          refine (awake_any P _ (Han.below (Han.below HG.out B4.out) HBK.out)).mono ?_
          rintro e w9 ⟨rfl, hb⟩
          have B9 := Lib.hid (below_next (below_next B4.out HBK.out) hb)
          clear hb
          go_wp2
          go_ret
          exact ⟨rfl, B9.out⟩
      · obtain ⟨q1, hv⟩ := err_there hev (by decide)
        subst hv
        subst hnx
        rw [decide_eq_false ma] at C3
        rcases HQ2.out with ⟨mb, hu, hny, hoy⟩ | ⟨mb, heu, hny⟩
        · subst hu
          rw [decide_eq_true mb] at C4
          clear ma mb hev hny hoy
          go_wp2
          go_region_held3 (fun W => Below W0.heap.size W0 W ∧ W.cell? ⟨ga, 0, none⟩ = some (.int .i64 a.who) ∧ W.cell? ⟨ga, 1, none⟩ = some (.int .i64 a.nonce) ∧ W.cell? ⟨ga, 2, none⟩ = some (.int .i64 a.op) ∧ W.cell? ⟨ga, 3, none⟩ = some (.int .i64 a.tenant) ∧ W.cell? ⟨ga, 4, none⟩ = some (.int .i64 a.key) ∧ W.cell? ⟨ga, 5, none⟩ = some (.int .i64 a.version) ∧ W.cell? ⟨ga, 6, none⟩ = some (.int .i64 a.set) ∧ W.cell? ⟨ga, 7, none⟩ = some (.int .i64 a.grant) ∧ W.cell? ⟨ga, 8, none⟩ = some (.int .i64 a.to) ∧ W.cell? ⟨ga, 9, none⟩ = some (.int .i64 a.ops) ∧ W.cell? ⟨ga, 10, none⟩ = some (.int .i64 a.till) ∧ W.cell? ⟨ga, 11, none⟩ = some (.string a.name) ∧ W.cell? ⟨ga, 12, none⟩ = some (.slice A1 a.bytes.length c1) ∧ W.cell? ⟨ga, 13, none⟩ = some (.slice A2 a.token.length c2) ∧ W.cell? ⟨gb, 0, none⟩ = some (.int .i64 b.who) ∧ W.cell? ⟨gb, 1, none⟩ = some (.int .i64 b.nonce) ∧ W.cell? ⟨gb, 2, none⟩ = some (.int .i64 b.op) ∧ W.cell? ⟨gb, 3, none⟩ = some (.int .i64 b.tenant) ∧ W.cell? ⟨gb, 4, none⟩ = some (.int .i64 b.key) ∧ W.cell? ⟨gb, 5, none⟩ = some (.int .i64 b.version) ∧ W.cell? ⟨gb, 6, none⟩ = some (.int .i64 b.set) ∧ W.cell? ⟨gb, 7, none⟩ = some (.int .i64 b.grant) ∧ W.cell? ⟨gb, 8, none⟩ = some (.int .i64 b.to) ∧ W.cell? ⟨gb, 9, none⟩ = some (.int .i64 b.ops) ∧ W.cell? ⟨gb, 10, none⟩ = some (.int .i64 b.till) ∧ W.cell? ⟨gb, 11, none⟩ = some (.string b.name) ∧ W.cell? ⟨gb, 12, none⟩ = some (.slice D1 b.bytes.length d1) ∧ W.cell? ⟨gb, 13, none⟩ = some (.slice D2 b.token.length d2))
            (first
              | (refine HF.out _ ?_; first | assumption | exact Below.drew (by assumption)))
            (first
              | (go_at_call 12; (with_reducible refine (C3.out _ (by first | assumption | exact Below.drew (by assumption))).mono ?_); rintro e wk ⟨rfl, hb⟩; have hbk := below_next (w0 := W0) (by first | assumption | exact Below.drew (by assumption)) hb)
              | (go_at_call 12; (with_reducible refine (C4.out _ (by first | assumption | exact Below.drew (by assumption))).mono ?_); rintro e wk ⟨rfl, hb⟩; have hbk := below_next (w0 := W0) (by first | assumption | exact Below.drew (by assumption)) hb))
          have HBK := Lib.hid hbk
          clear hbk
          go_wp2_with fail
          refine (awake_any P _ (Han.below (Han.below HG.out B4.out) HBK.out)).mono ?_
          rintro e w9 ⟨rfl, hb⟩
          have B9 := Lib.hid (below_next (below_next B4.out HBK.out) hb)
          clear hb
          go_wp2
          go_ret
          exact ⟨rfl, B9.out⟩
        · obtain ⟨q2, hu⟩ := err_there heu (by decide)
          subst hu
          subst hny
          rw [decide_eq_false mb] at C4
          clear ma mb hev heu
          go_wp2
          go_region_held3 (fun W => Below W0.heap.size W0 W ∧ W.cell? ⟨ga, 0, none⟩ = some (.int .i64 a.who) ∧ W.cell? ⟨ga, 1, none⟩ = some (.int .i64 a.nonce) ∧ W.cell? ⟨ga, 2, none⟩ = some (.int .i64 a.op) ∧ W.cell? ⟨ga, 3, none⟩ = some (.int .i64 a.tenant) ∧ W.cell? ⟨ga, 4, none⟩ = some (.int .i64 a.key) ∧ W.cell? ⟨ga, 5, none⟩ = some (.int .i64 a.version) ∧ W.cell? ⟨ga, 6, none⟩ = some (.int .i64 a.set) ∧ W.cell? ⟨ga, 7, none⟩ = some (.int .i64 a.grant) ∧ W.cell? ⟨ga, 8, none⟩ = some (.int .i64 a.to) ∧ W.cell? ⟨ga, 9, none⟩ = some (.int .i64 a.ops) ∧ W.cell? ⟨ga, 10, none⟩ = some (.int .i64 a.till) ∧ W.cell? ⟨ga, 11, none⟩ = some (.string a.name) ∧ W.cell? ⟨ga, 12, none⟩ = some (.slice A1 a.bytes.length c1) ∧ W.cell? ⟨ga, 13, none⟩ = some (.slice A2 a.token.length c2) ∧ W.cell? ⟨gb, 0, none⟩ = some (.int .i64 b.who) ∧ W.cell? ⟨gb, 1, none⟩ = some (.int .i64 b.nonce) ∧ W.cell? ⟨gb, 2, none⟩ = some (.int .i64 b.op) ∧ W.cell? ⟨gb, 3, none⟩ = some (.int .i64 b.tenant) ∧ W.cell? ⟨gb, 4, none⟩ = some (.int .i64 b.key) ∧ W.cell? ⟨gb, 5, none⟩ = some (.int .i64 b.version) ∧ W.cell? ⟨gb, 6, none⟩ = some (.int .i64 b.set) ∧ W.cell? ⟨gb, 7, none⟩ = some (.int .i64 b.grant) ∧ W.cell? ⟨gb, 8, none⟩ = some (.int .i64 b.to) ∧ W.cell? ⟨gb, 9, none⟩ = some (.int .i64 b.ops) ∧ W.cell? ⟨gb, 10, none⟩ = some (.int .i64 b.till) ∧ W.cell? ⟨gb, 11, none⟩ = some (.string b.name) ∧ W.cell? ⟨gb, 12, none⟩ = some (.slice D1 b.bytes.length d1) ∧ W.cell? ⟨gb, 13, none⟩ = some (.slice D2 b.token.length d2))
            (first
              | (refine HF.out _ ?_; first | assumption | exact Below.drew (by assumption)))
            (first
              | (go_at_call 12; (with_reducible refine (C3.out _ (by first | assumption | exact Below.drew (by assumption))).mono ?_); rintro e wk ⟨rfl, hb⟩; have hbk := below_next (w0 := W0) (by first | assumption | exact Below.drew (by assumption)) hb)
              | (go_at_call 12; (with_reducible refine (C4.out _ (by first | assumption | exact Below.drew (by assumption))).mono ?_); rintro e wk ⟨rfl, hb⟩; have hbk := below_next (w0 := W0) (by first | assumption | exact Below.drew (by assumption)) hb))
          have HBK := Lib.hid hbk
          clear hbk
          go_wp2_with fail
          refine (awake_any P _ (Han.below (Han.below HG.out B4.out) HBK.out)).mono ?_
          rintro e w9 ⟨rfl, hb⟩
          have B9 := Lib.hid (below_next (below_next B4.out HBK.out) hb)
          clear hb
          go_wp2
          go_ret
          exact ⟨rfl, B9.out⟩
end Go.Proofs.YtidpihpddkfhgaaDoor
