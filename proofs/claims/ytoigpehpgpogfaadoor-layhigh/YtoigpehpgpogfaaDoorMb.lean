/- Contract: hints as bytes, by the document's own code. -/
import Derived.Test.YtoigpehpgpogfaaDoorLg
import Derived.Test.YtoigpehpgpogfaaDoorLh
import Derived.Test.YtoigpehpgpogfaaDoorMa
namespace Go.Proofs.YtoigpehpgpogfaaDoor
open Go.RowKit Slices Go.Proofs.YtoigpehpgpogfaaDoor.Bit

/-- a slice of slices: where each lies, its room, its numbers -/
structure Ent where
  A : Option Addr
  c : Nat
  l : List Int
def nums (es : List Ent) : List (List Int) := es.map (·.l)
def HasL (w : World) (B : Nat) (A : Option Addr) (es : List Ent) : Prop :=
  ∀ k (h : k < es.length), (∃ a : Addr, A = some a ∧ a.block < B ∧ w.cell? (a.add k) = some (.slice es[k].A es[k].l.length es[k].c)) ∧ Has .i64 w B es[k].A es[k].l
theorem HasL.below {w w' : World} {B : Nat} {A : Option Addr} {es : List Ent} (h : HasL w B A es) (hb : Below B w w') : HasL w' B A es := fun k hk => by
  obtain ⟨⟨a, e, ha, hc⟩, h2⟩ := h k hk
  exact ⟨⟨a, e, ha, (hb.cell (by rw [add_block]; exact ha)).trans hc⟩, h2.below hb⟩
theorem HasL.mono {w : World} {B B' : Nat} {A : Option Addr} {es : List Ent} (h : HasL w B A es) (hB : B ≤ B') : HasL w B' A es := fun k hk => by
  obtain ⟨⟨a, e, ha, hc⟩, h2⟩ := h k hk
  exact ⟨⟨a, e, by omega, hc⟩, h2.mono hB⟩
theorem HasL.next {w w' : World} {A : Option Addr} {es : List Ent} (h : HasL w w.heap.size A es) (hb : Below w.heap.size w w') : HasL w' w'.heap.size A es := (h.below hb).mono hb.size
theorem nums_len (es : List Ent) : (nums es).length = es.length := List.length_map ..
theorem nums_at (es : List Ent) {k : Nat} (h : k < es.length) : (nums es).getD k [] = es[k].l := by
  unfold nums
  rw [List.getD_eq_getElem?_getD, List.getElem?_map, List.getElem?_eq_getElem h]; rfl

theorem HasL.drewN {w : World} {B : Nat} {A : Option Addr} {es : List Ent} (h : HasL w B A es) (n : Nat) : HasL (w.drewN n) B A es := h

/-- bytes and an error's number are told -/
def ResE (w : World) (l : List Int) (E : Int) (e : Ending) (w' : World) : Prop :=
  ∃ A c, e = .returned (.tuple #[.slice A l.length c, .int .i64 E]) ∧ w'.ownsRow w.heap.size 5 1 (.slice A l.length c) l.length (ints .u8 l) ∧ Below w.heap.size w w'
theorem resE_nil {w w' : World} {E : Int} {e : Ending} (he : e = .returned (.tuple #[.slice none 0 0, .int .i64 E])) (hb : Below w.heap.size w w') : ResE w [] E e w' :=
  ⟨none, 0, he, World.ownsRow_nil _ _ _ _, hb⟩
def kOf (s : Int) : Nat := if s = 1 then 4 else if s = 2 then 6 else 8
def wOf (s : Int) : Nat := if s = 1 then 80 else if s = 2 then 55 else 75
theorem kw_bd (s : Int) : 1 ≤ kOf s ∧ kOf s ≤ 8 ∧ 55 ≤ wOf s ∧ wOf s ≤ 80 := by
  unfold kOf wOf
  split <;> (try split) <;> omega
theorem set_kw {s : Int} (h : setB s = true) : ∃ x1 x2 x3 x4 x6 x7 x8 : Int, setV s = #[.int .i64 (kOf s), .int .i64 x1, .int .i64 x2, .int .i64 x3, .int .i64 x4, .int .i64 (wOf s), .int .i64 x6, .int .i64 x7, .int .i64 x8] := by
  rcases set_cases s with rfl | rfl | rfl | ⟨h1, h2, h3⟩
  · exact ⟨_, _, _, _, _, _, _, rfl⟩
  · exact ⟨_, _, _, _, _, _, _, rfl⟩
  · exact ⟨_, _, _, _, _, _, _, rfl⟩
  · unfold setB at h; simp [h1, h2, h3] at h
/-- what is laid so far -/
def HRow (w : World) (K W g : Nat) (P : List Nat) (C : List Int) (wr : World) : Prop :=
  wr.ownsRow w.heap.size 5 1 (.slice (some ⟨g, 0, none⟩) (W + K) (W + K)) (W + K) (ints .u8 (outL K W P C)) ∧ Below w.heap.size w wr

set_option maxRecDepth 100000 in
set_option maxHeartbeats 8000000 in
theorem refHints_in (s : Int) (A : Option Addr) (c : Nat) (es : List Ent) (w : World) (hs : setB s = true) (h : HasL w w.heap.size A es) (_hn : es.length ≤ 4000) (hl : ∀ i (h : i < es.length), es[i].l.length ≤ 4000) :
    Calls Tryd.prog 28 #[.int .i64 s, .slice A es.length c] w (ResE w (hintsB (kOf s) (wOf s) (nums es)) (hintsE (kOf s) (wOf s) (nums es))) := by
  obtain ⟨x1, x2, x3, x4, x6, x7, x8, hx⟩ := set_kw hs
  obtain ⟨K0, K1, W0, W1⟩ := kw_bd s
  generalize kOf s = K at hx K0 K1
  generalize wOf s = W at hx W0 W1
  have HX := Lib.hid hx
  have HS := Lib.hid hs
  have H := Lib.hid h
  have HLL := Lib.hid hl
  clear hx h hs hl
  obtain ⟨i0, hi0, hz0, hz1, hz2⟩ := info_parts Tryd.info5
  by_cases hk : es.length = K
  · have t1 : ((es.length : Int) != (K : Int)) = false := by rw [bne_eq_false_iff_eq]; omega
    have HK := Lib.hid hk
    have k1 : es.length ≤ K := by omega
    have k2 : K ≤ es.length := by omega
    clear hk
    go_enter Tryd.func28, Tryd.ntmps28
    go_wp2_with (go_at_call 14; refine (refSet_any s _).mono ?_; rw [HX.out, HS.out]; rintro e w1 ⟨rfl, hb⟩; have HB := Lib.hid hb; clear hb)
    have hb2 : Below w.heap.size w (w1.alloc (.cells #[.int .i64 K, .int .i64 x1, .int .i64 x2, .int .i64 x3, .int .i64 x4, .int .i64 W, .int .i64 x6, .int .i64 x7, .int .i64 x8] 33)) := HB.out.alloc HB.out.size _
    have hn2 := Nine.new w1 33 #[.int .i64 K, .int .i64 x1, .int .i64 x2, .int .i64 x3, .int .i64 x4, .int .i64 W, .int .i64 x6, .int .i64 x7, .int .i64 x8]
    generalize w1.heap.size = gs at hn2
    generalize World.alloc _ _ = w2 at hb2 hn2 ⊢
    have H2 := Lib.hid (H.out.next hb2)
    have HB2 := Lib.hid hb2
    have HN2 := Lib.hid hn2
    clear HB hb2 hn2
    go_loopw [8] (fun i wr => ∃ k : Nat, k ≤ es.length ∧ i = .int .i64 k ∧ (∀ j, j < k → HintPoly ((nums es).getD j [])) ∧ w2 = wr) (fun i _ => es.length - (intOf i).toNat)
    case atStart => exact ⟨0, by omega, rfl, fun j hj => by omega, rfl⟩
    case round =>
      obtain ⟨k, hkl, rfl, hall, rfl⟩ := hrel
      have HALL := Lib.hid hall
      clear hall
      by_cases hlt : k < es.length
      · obtain ⟨⟨a, e, _, ha⟩, hf⟩ := H2.out k hlt
        subst e
        have HF := Lib.hid hf
        have HNK := Lib.hid (nums_at es hlt)
        have hll := HLL.out k hlt
        clear hf
        generalize es[k].l = le at ha HF HNK hll
        generalize es[k].A = Ae at ha HF
        generalize es[k].c = ce at ha
        by_cases h256 : le.length = 256
        · have t2 : ((le.length : Int) != 256) = false := by rw [bne_eq_false_iff_eq]; omega
          have l0 : le.length ≤ 256 := by omega
          have l1 : 256 ≤ le.length := by omega
          clear h256
          go_wp2
          go_loopw [9] (fun i wr => ∃ j : Nat, j ≤ 256 ∧ i = .int .i64 j ∧ (∀ j', j' < j → le.getD j' 0 = 0 ∨ le.getD j' 0 = 1) ∧ w2 = wr) (fun i _ => 256 - (intOf i).toNat)
          case atStart => exact ⟨0, by omega, rfl, fun j hj => by omega, rfl⟩
          case round =>
            obtain ⟨j, hj, rfl, hin, rfl⟩ := hrel
            have HIN := Lib.hid hin
            clear hin
            by_cases hjl : j < 256
            · have bj : decide ((j : Int) < 256) = true := by rw [decide_eq_true_iff]; omega
              obtain ⟨b, rfl, _, hbc⟩ := HF.out j (by omega)
              obtain ⟨x, hx⟩ : ∃ x, x = le.getD j 0 := ⟨_, rfl⟩
              rw [← hx] at hbc
              have HXX := Lib.hid hx
              clear hx
              by_cases h01 : x = 0 ∨ x = 1
              · have hnx : ∀ j', j' < j + 1 → le.getD j' 0 = 0 ∨ le.getD j' 0 = 1 := fun j' hj' => by
                  by_cases e : j' = j
                  · subst e; rw [← HXX.out]; exact h01
                  · exact HIN.out j' (by omega)
                have HNX := Lib.hid hnx
                clear hnx
                rcases h01 with rfl | rfl
                · go_wp2
                  go_roundw
                  case rel => exact ⟨j + 1, by omega, by go_num, HNX.out, trivial⟩
                  case measure => simp [intOf]; omega
                · go_wp2
                  go_roundw
                  case rel => exact ⟨j + 1, by omega, by go_num, HNX.out, trivial⟩
                  case measure => simp [intOf]; omega
              · have d0 : (x != 0) = true := by rw [bne_iff_ne]; omega
                have d1 : (x != 1) = true := by rw [bne_iff_ne]; omega
                have HBAD : Hid (¬ HintShape K (nums es)) := fun g => by
                  have := (g.2 k (by omega)).2 j hjl
                  rw [HNK.out, ← HXX.out] at this
                  exact h01 this
                clear h01
                go_wp2
                go_ret2
                rw [hintsE_shape HBAD.out]
                unfold hintsB
                rw [hintsE_shape HBAD.out, if_neg (by omega)]
                exact resE_nil rfl HB2.out
            · have bj : decide ((j : Int) < 256) = false := by rw [decide_eq_false_iff_not]; omega
              have e : j = 256 := by omega
              subst e
              go_wp2
              go_roundw
              case rel =>
                refine ⟨k + 1, by omega, by go_num, fun j' hj' => ?_, trivial⟩
                by_cases e : j' = k
                · subst e
                  rw [HNK.out]
                  exact ⟨by omega, HIN.out⟩
                · exact HALL.out j' (by omega)
              case measure => simp [intOf]; omega
        · have t2 : ((le.length : Int) != 256) = true := by rw [bne_iff_ne]; omega
          have HBAD : Hid (¬ HintShape K (nums es)) := fun g => by
            have := (g.2 k (by omega)).1
            rw [HNK.out] at this
            exact h256 this
          clear h256
          go_wp2
          go_ret2
          rw [hintsE_shape HBAD.out]
          unfold hintsB
          rw [hintsE_shape HBAD.out, if_neg (by omega)]
          exact resE_nil rfl HB2.out
      · have HSH : Hid (HintShape K (nums es)) := ⟨by rw [nums_len]; omega, fun j hj => HALL.out j (by omega)⟩
        clear HALL
        have c0 : w2.cell? ⟨gs, 0, none⟩ = some (.int .i64 K) := HN2.out.cell 0
        have c5 : w2.cell? ⟨gs, 5, none⟩ = some (.int .i64 W) := HN2.out.cell 5
        go_wp2_with (at_make; refine wpList_make_full _ rfl _ _ 23 rfl w2.heap.size 5 i0 (.int .u8 0) 1 Tryd.underlying23 hi0 hz0 hz1 _ _ _ _ (W + K) rfl rfl (by omega) (by omega) (by rw [hz2]; omega) (by unfold maxLen; omega) (Nat.le_refl _) ?_; intro w3 hown hgrow; rw [made_ints] at hown; have HO := Lib.hid hown; clear hown; have HG := Lib.hid hgrow; clear hgrow)
        have HS0 : Hid (HRow w2 K W w2.heap.size (places (nums es) 0) (counts (nums es) 0) w3) := ⟨by show w3.ownsRow _ _ _ _ _ (ints .u8 (outL K W [] [])); rw [outL_start]; exact HO.out, (Below.refl _ _).grown HG.out (Nat.le_refl _) (by simp)⟩
        clear HO HG c0 c5
        generalize hgg : w2.heap.size = g at HS0
        go_loopw [11, 12] (fun n i wr => ∃ k : Nat, k ≤ K ∧ i = .int .i64 k ∧ n = .int .i64 ((places (nums es) k).length : Nat) ∧ (places (nums es) k).length ≤ W ∧ HRow w2 K W g (places (nums es) k) (counts (nums es) k) wr) (fun _ i _ => K - (intOf i).toNat)
        case atStart => exact ⟨0, by omega, rfl, rfl, Nat.zero_le _, HS0.out⟩
        case round =>
          obtain ⟨k, hkK, rfl, rfl, hW, hrow⟩ := hrel
          have HR := Lib.hid hrow
          have c0 : wr.cell? ⟨gs, 0, none⟩ = some (.int .i64 K) := (HN2.out.next hrow.2).cell 0
          have HW := Lib.hid hW
          clear hrow HS0
          by_cases hlt : k < K
          · have bk : decide ((k : Int) < (K : Int)) = true := by rw [decide_eq_true_iff]; omega
            have HSK := Lib.hid (HSH.out.2 k hlt)
            have e0 : plTo (nums es) k 0 = places (nums es) k := plTo_zero _ _
            have HST : Hid (HRow w2 K W g (plTo (nums es) k 0) (counts (nums es) k) wr ∧ (plTo (nums es) k 0).length ≤ W ∧ (places (nums es) k).length = (plTo (nums es) k 0).length) := by show _ ∧ _ ∧ _; rw [e0]; exact ⟨HR.out, HW.out, rfl⟩
            clear e0 HR HW hW
            generalize (places (nums es) k).length = pk at HST
            go_wp2
            go_loopw [11, 13] (fun n i wr => ∃ t : Nat, t ≤ 256 ∧ i = .int .i64 t ∧ n = .int .i64 ((plTo (nums es) k t).length : Nat) ∧ (plTo (nums es) k t).length ≤ W ∧ HRow w2 K W g (plTo (nums es) k t) (counts (nums es) k) wr) (fun _ i _ => 256 - (intOf i).toNat)
            case atStart => exact ⟨0, by omega, rfl, by rw [HST.out.2.2], HST.out.2.1, HST.out.1⟩
            case round =>
              obtain ⟨t, ht, rfl, rfl, hWt, hrow⟩ := hrel
              have HR := Lib.hid hrow
              have c0 : wr.cell? ⟨gs, 0, none⟩ = some (.int .i64 K) := (HN2.out.next hrow.2).cell 0
              have c5 : wr.cell? ⟨gs, 5, none⟩ = some (.int .i64 W) := (HN2.out.next hrow.2).cell 5
              clear hrow HST
              by_cases ht2 : t < 256
              · have bt : decide ((t : Int) < 256) = true := by rw [decide_eq_true_iff]; omega
                have hke : k < es.length := by omega
                obtain ⟨⟨a, e, _, ha⟩, hf⟩ := (H2.out.next HR.out.2) k hke
                subst e
                have hnk := nums_at es hke
                obtain ⟨b, eb, _, hbc⟩ := hf t (by have := HSK.out.1; rw [hnk] at this; omega)
                have h01 := HSK.out.2 t ht2
                rw [hnk] at h01
                have hlen := HSK.out.1
                rw [hnk] at hlen
                have HP1 : Hid (es[k].l.getD t 0 = 1 → plTo (nums es) k (t + 1) = plTo (nums es) k t ++ [t]) := fun e => plTo_one (by rw [hnk]; exact e)
                have HP2 : Hid (es[k].l.getD t 0 ≠ 1 → plTo (nums es) k (t + 1) = plTo (nums es) k t) := fun e => plTo_not (by rw [hnk]; exact e)
                have le0 : es[k].l.length ≤ 256 := by omega
                have le1 : 256 ≤ es[k].l.length := by omega
                clear hf hnk hlen
                generalize es[k].c = ce at ha
                generalize es[k].A = Ae at ha eb
                subst eb
                generalize es[k].l.getD t 0 = x at hbc h01 HP1 HP2
                generalize es[k].l.length = ln at ha le0 le1
                rcases h01 with rfl | rfl
                · have HNX := Lib.hid (HP2.out (by omega))
                  go_wp2
                  go_roundw
                  case rel => exact ⟨t + 1, by omega, by go_num, by rw [HNX.out], by rw [HNX.out]; exact hWt, by rw [HNX.out]; exact HR.out⟩
                  case measure => simp [intOf]; omega
                · have HNX := Lib.hid (HP1.out rfl)
                  obtain ⟨pn, hpn⟩ : ∃ pn, pn = (plTo (nums es) k t).length := ⟨_, rfl⟩
                  have HPN := Lib.hid hpn
                  rw [← hpn] at hWt ⊢
                  clear hpn
                  by_cases hfull : pn = W
                  · have d : ((pn : Int) == (W : Int)) = true := by rw [beq_iff_eq]; omega
                    have HOV : Hid (W < (places (nums es) K).length) := by
                      have := plTo_le (nums es) (i := k) (t := t + 1) (K := K) hlt (by omega)
                      rw [HNX.out, List.length_append, ← HPN.out] at this
                      simp at this
                      show W < _
                      omega
                    clear hfull
                    go_wp2
                    go_ret2
                    rw [hintsE_over HSH.out HOV.out]
                    unfold hintsB
                    rw [hintsE_over HSH.out HOV.out, if_neg (by omega)]
                    exact resE_nil rfl (below_next HB2.out HR.out.2)
                  · have d : ((pn : Int) == (W : Int)) = false := by rw [beq_eq_false_iff_ne]; omega
                    have hpW : pn < W := by omega
                    have cO := own_cell HR.out.1 (k := pn) (by omega)
                    have fO := HR.out.1.frozenAt pn
                    have hnr : HRow w2 K W g (plTo (nums es) k (t + 1)) (counts (nums es) k) (wr.setCell ⟨g, pn, none⟩ (.int .u8 t)) := by
                      refine ⟨?_, HR.out.2.setCell (own_block HR.out.1).1 _⟩
                      rw [HNX.out, ← outL_put (by rw [← HPN.out]; exact hpW) t, ← HPN.out]
                      exact own_set HR.out.1 pn _
                    have HNR := Lib.hid hnr
                    have w8 : IntKind.u8.wrap (t : Int) = t := by simp [IntKind.wrap, IntKind.bits, IntKind.signed]; omega
                    generalize (outL K W (plTo (nums es) k t) (counts (nums es) k)).getD pn 0 = ov at cO
                    clear hnr hfull
                    go_wp2
                    go_roundw
                    case rel => exact ⟨t + 1, by omega, by go_num, by rw [HNX.out, List.length_append, ← HPN.out]; go_num, by rw [HNX.out, List.length_append, ← HPN.out]; simp; omega, HNR.out⟩
                    case measure => simp [intOf]; omega
              · have bt : decide ((t : Int) < 256) = false := by rw [decide_eq_false_iff_not]; omega
                have e : t = 256 := by omega
                subst e
                have HPF : Hid (plTo (nums es) k 256 = places (nums es) (k + 1)) := plTo_full _ _
                obtain ⟨pn, hpn⟩ : ∃ pn, pn = (plTo (nums es) k 256).length := ⟨_, rfl⟩
                have HPN := Lib.hid hpn
                rw [← hpn] at hWt ⊢
                clear hpn
                have cO := own_cell HR.out.1 (k := W + k) (by omega)
                have fO := HR.out.1.frozenAt (W + k)
                have hnr : HRow w2 K W g (places (nums es) (k + 1)) (counts (nums es) (k + 1)) (wr.setCell ⟨g, W + k, none⟩ (.int .u8 pn)) := by
                  refine ⟨?_, HR.out.2.setCell (own_block HR.out.1).1 _⟩
                  have e1 := outL_count (K := K) (W := W) (P := plTo (nums es) k 256) (C := counts (nums es) k) (by rw [← HPN.out]; exact hWt) (by rw [counts_len]; exact hlt) (pn : Int)
                  rw [counts_len] at e1
                  have e2 : counts (nums es) (k + 1) = counts (nums es) k ++ [(pn : Int)] := by rw [counts_succ, ← HPF.out, ← HPN.out]
                  rw [e2, ← HPF.out, ← e1]
                  exact own_set HR.out.1 (W + k) _
                have HNR := Lib.hid hnr
                have w8 : IntKind.u8.wrap (pn : Int) = pn := by simp [IntKind.wrap, IntKind.bits, IntKind.signed]; omega
                generalize (outL K W (plTo (nums es) k 256) (counts (nums es) k)).getD (W + k) 0 = ov at cO
                clear hnr
                go_wp2
                go_roundw
                case rel => exact ⟨k + 1, by omega, by go_num, by rw [← HPF.out, ← HPN.out], by rw [← HPF.out, ← HPN.out]; exact hWt, HNR.out⟩
                case measure => simp [intOf]; omega
          · have bk : decide ((k : Int) < (K : Int)) = false := by rw [decide_eq_false_iff_not]; omega
            have e : k = K := by omega
            subst e
            go_wp2
            go_ret2
            rw [hintsE_ok HSH.out HW.out]
            unfold hintsB
            rw [hintsE_ok HSH.out HW.out, if_pos rfl]
            have ho := HR.out.1
            have hle : (hintsL k W (nums es)).length = W + k := outL_len HW.out (by rw [counts_len]; exact Nat.le_refl _)
            refine ⟨some ⟨g, 0, none⟩, W + k, ?_, ?_, below_next HB2.out HR.out.2⟩
            · rw [hle]; first | rfl | (rw [← hgg]; rfl)
            · rw [hle]; exact own_down ho HB2.out.size
  · have t1 : ((es.length : Int) != (K : Int)) = true := by rw [bne_iff_ne]; omega
    have HBAD : Hid (¬ HintShape K (nums es)) := fun g => by have := g.1; rw [nums_len] at this; exact hk this
    clear hk
    go_enter Tryd.func28, Tryd.ntmps28
    go_wp2_with (go_at_call 14; refine (refSet_any s _).mono ?_; rw [HX.out, HS.out]; rintro e w1 ⟨rfl, hb⟩; have HB := Lib.hid hb; clear hb)
    go_ret2
    rw [hintsE_shape HBAD.out]
    unfold hintsB
    rw [hintsE_shape HBAD.out, if_neg (by omega)]
    exact resE_nil rfl (HB.out.alloc HB.out.size _)
end Go.Proofs.YtoigpehpgpogfaaDoor
