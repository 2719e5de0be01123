/- Contract: awake: what every program answers that is one. -/
import Derived.Test.YtidpihpddkfhgaaDoorAi
namespace Go.Proofs.YtidpihpddkfhgaaDoor
open Go.RowKit Slices Go.Proofs.YtidpihpddkfhgaaDoor.Bit

theorem one_wide : WideA oneA := wide_none oneA (may_nums one_may) rfl rfl
theorem one_small : SmallA oneA := ⟨Nat.zero_le _, Nat.zero_le _, Nat.zero_le _⟩
theorem zero_small : SmallA zeroA := ⟨Nat.zero_le _, Nat.zero_le _, Nat.zero_le _⟩
theorem one_len : (laidA oneA).length = 112 := by rw [laidA_len]; rfl
theorem nil_read {a : AskV} {x y : List Int} {k : Int} (h : ReadIs [] a x y k) : a = zeroA ∧ x = [] ∧ y = [] ∧ k = 3 := by
  rcases h with ⟨_, h1, h2, h3, h4⟩ | ⟨h0, _⟩ | ⟨h0, _⟩
  · exact ⟨h1, h2, h3, h4⟩
  · simp at h0
  · simp at h0
set_option maxRecDepth 100000 in
set_option maxHeartbeats 4000000 in
theorem awake_any (P : AskOk) (w : World) (hg : Han w) :
    Calls Tryd.prog 7 #[] w fun e w' => e = .returned (.bool true) ∧ Below w.heap.size w w' := by
  have HI : Hid ((Tryd.prog.info? 24).map (·.size) = some 14) := by show _ = _; kernel_rfl
  have HG := Lib.hid hg
  clear hg
  have HV : Hid (some ((askVals oneA none 0 none 0).size) = some 14) := rfl
  have HS1 : Hid (sameV oneA oneA = true) := sameV_self _
  have HM1 : Hid (decide (MayA oneA) = true) := decide_eq_true one_may
  have HM0 : Hid (decide (MayA zeroA) = false) := decide_eq_false zero_not
  obtain ⟨O, hO⟩ : ∃ O, O = askVals oneA none 0 none 0 := ⟨_, rfl⟩
  have HO : Hid (O = askVals oneA none 0 none 0) := hO
  have C1 : Hid (∀ W, Calls Tryd.prog 23 #[] W fun e w' => e = .returned (.agg O) ∧ Below W.heap.size W w') := fun W => by rw [HO.out]; exact one_any W
  have C2 : Hid (∀ W, Calls Tryd.prog 8 #[.agg O] W (BodyP oneA W)) := fun W => by rw [HO.out]; exact P.body oneA none 0 none 0 W (in_none oneA W rfl rfl) one_small one_wide
  have C3 : Hid (∀ W, Calls Tryd.prog 12 #[.agg O] W fun e w' => e = .returned (.bool true) ∧ Below W.heap.size W w') := fun W => by rw [HO.out, ← HM1.out]; exact P.may oneA none 0 none 0 W (in_none oneA W rfl rfl) one_small
  have C4 : Hid (∀ W, Calls Tryd.prog 14 #[.agg O, .agg O] W fun e w' => e = .returned (.bool true) ∧ Below W.heap.size W w') := fun W => by rw [HO.out, ← HS1.out]; exact P.same oneA oneA none 0 none 0 none 0 none 0 W (in_none oneA W rfl rfl) (in_none oneA W rfl rfl) one_small one_small one_wide one_wide
  have C5 : Hid (∀ W, Calls Tryd.prog 12 #[.agg #[.int .i64 0, .int .i64 0, .int .i64 0, .int .i64 0, .int .i64 0, .int .i64 0, .int .i64 0, .int .i64 0, .int .i64 0, .int .i64 0, .int .i64 0, .string { data := #[] }, .slice none 0 0, .slice none 0 0]] W fun e w' => e = .returned (.bool false) ∧ Below W.heap.size W w') := fun W => by rw [← HM0.out]; exact P.may zeroA none 0 none 0 W (in_none zeroA W rfl rfl) zero_small
  clear hO HV HS1 HM1 HM0
  go_enter Tryd.func7, Tryd.ntmps7
  go_wp2_with fail
  refine (C1.out _).mono ?_
  rintro e w1 ⟨rfl, hb⟩
  have B1 := Lib.hid hb
  clear hb
  go_wp2_with fail
  refine (C2.out _).mono ?_
  rintro e w2 ⟨A', n', c', v, rfl, hb, hq⟩
  have B2 := Lib.hid (below_next B1.out hb)
  obtain ⟨rfl, rfl⟩ : v = .nilIface ∧ n' = 112 := by
    rcases hq with ⟨_, h1, h2, _⟩ | ⟨h1, _⟩
    · exact ⟨h1, h2.trans one_len⟩
    · exact absurd one_may h1
  clear hb hq B1
  go_wp2_with fail
  refine (P.read none 0 0 [] _ (Has.nil _ _ _ _) rfl (by omega) (fun _ => ⟨rfl, rfl⟩) (Nat.le_refl _) fit_none).mono ?_
  rintro e w3 ⟨a, x, y, k, A1, c1, A2, c2, X, cx, Y, cy, v, hr, rfl, he, _, _, _, _, _, _, _, hb⟩
  obtain ⟨rfl, rfl, rfl, rfl⟩ := nil_read hr
  have B3 := Lib.hid (below_next B2.out hb)
  have HE := Lib.hid he
  have HVZ : Hid (some ((askVals zeroA A1 c1 A2 c2).size) = some 14) := rfl
  have HOZ := Lib.hid (vals_one zeroA A1 c1 A2 c2)
  obtain ⟨Z, hZ⟩ : ∃ Z, Z = askVals zeroA A1 c1 A2 c2 := ⟨_, rfl⟩
  rw [← hZ] at HVZ HOZ ⊢
  have hz14 : Z.size = 14 := by rw [hZ]; rfl
  clear hr hb he B2 hZ
  go_wp2_with (refine wpList_store_row rfl 24 _ _ rfl w3.heap.size Z rfl rfl 24 _ (heap_alloc_new w3 _) (by rw [HVZ.out]; exact HI.out) (by rw [hz14]; rfl) HOZ.out ?_)
  have B4 := Lib.hid (B3.out.grown (grown_new_row w3 zeroV 24 Z) B3.out.size (fun q hq => by cases hq))
  have HE4 := Lib.hid (HE.out.next (below_new_row w3 zeroV 24 Z))
  unfold zeroV at B4 HE4
  generalize (w3.alloc (.cells #[.int .i64 0, .int .i64 0, .int .i64 0, .int .i64 0, .int .i64 0, .int .i64 0, .int .i64 0, .int .i64 0, .int .i64 0, .int .i64 0, .int .i64 0, .string { data := #[] }, .slice none 0 0, .slice none 0 0] 24)).setRow w3.heap.size Z = w4 at B4 HE4 ⊢
  clear B3 HE
  refine (num_any 3 _ _ (Han.below HG.out B4.out) HE4.out).mono ?_
  rintro e w5 ⟨rfl, hb⟩
  have B5 := Lib.hid (below_next B4.out hb)
  clear hb B4 HE4
  go_wp2_with fail
  refine (C1.out _).mono ?_
  rintro e w6 ⟨rfl, hb⟩
  have B6 := Lib.hid (below_next B5.out hb)
  clear hb B5
  go_wp2_with fail
  refine (C3.out _).mono ?_
  rintro e w7 ⟨rfl, hb⟩
  have B7 := Lib.hid (below_next B6.out hb)
  clear hb B6
  go_wp2_with fail
  refine (C5.out _).mono ?_
  rintro e w8 ⟨rfl, hb⟩
  have B8 := Lib.hid (below_next B7.out hb)
  clear hb B7
  go_wp2_with fail
  refine (C1.out _).mono ?_
  rintro e w9 ⟨rfl, hb⟩
  have B9 := Lib.hid (below_next B8.out hb)
  clear hb B8
  go_wp2_with fail
  refine (C1.out _).mono ?_
  rintro e w10 ⟨rfl, hb⟩
  have B10 := Lib.hid (below_next B9.out hb)
  clear hb B9
  go_wp2_with fail
  refine (C4.out _).mono ?_
  rintro e w11 ⟨rfl, hb⟩
  have B11 := Lib.hid (below_next B10.out hb)
  clear hb B10
  go_wp2
  go_ret
  exact ⟨rfl, B11.out⟩
end Go.Proofs.YtidpihpddkfhgaaDoor
