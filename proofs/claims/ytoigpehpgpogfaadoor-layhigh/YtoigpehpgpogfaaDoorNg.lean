/- Contract: the program's hints as bytes. -/
import Derived.Test.YtoigpehpgpogfaaDoorNf
import Derived.Test.YtoigpehpgpogfaaDoorMi
namespace Go.Proofs.YtoigpehpgpogfaaDoor
open Go.RowKit Slices Go.Proofs.YtoigpehpgpogfaaDoor.Bit

theorem isF_zero {v : Value} {w : World} (h : IsF 0 v w) : v = .nilIface := by
  rcases h with ⟨_, h⟩ | ⟨h, _⟩
  · exact h
  · exact absurd rfl h
theorem isF_some {c : Int} {v : Value} {w : World} (h : IsF c v w) (hc : c ≠ 0) : ∃ p, v = .iface 75 (.pointer (some p)) := by
  rcases h with ⟨e, _⟩ | ⟨_, p, h, _⟩
  · exact absurd e hc
  · exact ⟨p, h⟩
/-- bytes and an error that is not wrapped are told -/
def ResF (w : World) (l : List Int) (E : Int) (e : Ending) (w' : World) : Prop :=
  ∃ A c v, e = .returned (.tuple #[.slice A l.length c, v]) ∧ w'.ownsRow w.heap.size 5 1 (.slice A l.length c) l.length (ints .u8 l) ∧ IsF E v w' ∧ Below w.heap.size w w'
theorem resF_nil {w w' : World} {E : Int} {e : Ending} {v : Value} (he : e = .returned (.tuple #[.slice none 0 0, v])) (hv : IsF E v w') (hb : Below w.heap.size w w') : ResF w [] E e w' :=
  ⟨none, 0, v, he, World.ownsRow_nil _ _ _ _, hv, hb⟩
theorem okList2 {f : List Int} : OkList 2 f ↔ HintPoly f := by
  unfold OkList HintPoly
  constructor
  · rintro ⟨a, b⟩
    exact ⟨a, fun j hj => by have := b j hj; omega⟩
  · rintro ⟨a, b⟩
    exact ⟨a, fun j hj => by have := b j hj; omega⟩
theorem okLists2 {K : Nat} {h : List (List Int)} : OkLists K 2 h ↔ HintShape K h :=
  ⟨fun q => ⟨q.1, fun i hi => okList2.1 (q.2 i hi)⟩, fun q => ⟨q.1, fun i hi => okList2.2 (q.2 i hi)⟩⟩

set_option maxRecDepth 100000 in
set_option maxHeartbeats 8000000 in
theorem laidHints_in (s : Int) (A : Option Addr) (c : Nat) (es : List Ent) (w : World) (hs : setB s = true) (h : HasL w w.heap.size A es) (hn : es.length ≤ 4000) :
    Calls Tryd.prog 50 #[.int .i64 s, .slice A es.length c] w (ResF w (hintsB (kOf s) (wOf s) (nums es)) (hintsE (kOf s) (wOf s) (nums es))) := by
  obtain ⟨x1, x2, x3, x4, x6, x7, x8, hx⟩ := set_kw hs
  obtain ⟨K0, K1, W0, W1⟩ := kw_bd s
  generalize kOf s = K at hx K0 K1
  generalize wOf s = W at hx W0 W1
  have HX := Lib.hid hx
  have HS := Lib.hid hs
  have H := Lib.hid h
  clear hx h hs
  obtain ⟨i0, hi0, hz0, hz1, hz2⟩ := info_parts Tryd.info5
  go_enter Tryd.func50, Tryd.ntmps50
  go_wp2_with (go_at_call 63; refine (haveSet_yes s _ HS.out).mono ?_; rw [HX.out]; rintro e w1 ⟨rfl, hb⟩; have HB := Lib.hid hb; clear hb)
  have hb2 : Below w.heap.size w (w1.alloc (.cells #[.int .i64 K, .int .i64 x1, .int .i64 x2, .int .i64 x3, .int .i64 x4, .int .i64 W, .int .i64 x6, .int .i64 x7, .int .i64 x8] 30)) := HB.out.alloc HB.out.size _
  have hn2 := Nine.new w1 30 #[.int .i64 K, .int .i64 x1, .int .i64 x2, .int .i64 x3, .int .i64 x4, .int .i64 W, .int .i64 x6, .int .i64 x7, .int .i64 x8]
  generalize w1.heap.size = gs at hn2
  generalize World.alloc _ _ = w2 at hb2 hn2 ⊢
  have H2 := Lib.hid (H.out.next hb2)
  have HB2 := Lib.hid hb2
  have HN2 := Lib.hid hn2
  have c0 : w2.cell? ⟨gs, 0, none⟩ = some (.int .i64 K) := hn2.cell 0
  clear HB hb2 hn2
  go_wp2_with fail
  refine (haveLists_any _ A c K 2 es w2 H2.out hn (by omega)).mono ?_
  rintro e w3 ⟨v, rfl, hv, hb3⟩
  have H3 := Lib.hid (H2.out.next hb3)
  have HB3 := Lib.hid (below_next HB2.out hb3)
  have HN3 := Lib.hid (HN2.out.next hb3)
  clear hb3 H2 HB2 HN2 c0
  rcases hv with ⟨hok, hv⟩ | ⟨hno, hv⟩
  · have e := isF_zero hv
    subst e
    have HSH := Lib.hid (okLists2.1 hok)
    clear hok hv
    have hlen : es.length = K := by have := HSH.out.1; rwa [nums_len] at this
    have k1 : es.length ≤ K := by omega
    have k2 : K ≤ es.length := by omega
    clear hlen
    have c0 : w3.cell? ⟨gs, 0, none⟩ = some (.int .i64 K) := HN3.out.cell 0
    have c5 : w3.cell? ⟨gs, 5, none⟩ = some (.int .i64 W) := HN3.out.cell 5
    go_wp2_with (at_make; refine wpList_make_full _ rfl _ _ 23 rfl w3.heap.size 5 i0 (.int .u8 0) 1 Tryd.underlying23 hi0 hz0 hz1 _ _ _ _ (W + K) rfl rfl (by omega) (by omega) (by rw [hz2]; omega) (by unfold maxLen; omega) (Nat.le_refl _) ?_; intro w4 hown hgrow; rw [made_ints] at hown; have HO := Lib.hid hown; clear hown; have HG := Lib.hid hgrow; clear hgrow)
    have HS0 : Hid (HRow w3 K W w3.heap.size (places (nums es) 0) (counts (nums es) 0) w4) := ⟨by show w4.ownsRow _ _ _ _ _ (ints .u8 (outL K W [] [])); rw [outL_start]; exact HO.out, (Below.refl _ _).grown HG.out (Nat.le_refl _) (by simp)⟩
    clear HO HG c0 c5
    generalize hgg : w3.heap.size = g at HS0
    go_loopw [10, 11, 12, 13, 14, 38] (fun n _ _ _ _ i wr => ∃ k : Nat, k ≤ es.length ∧ i = .int .i64 k ∧ n = .int .i64 ((places (nums es) k).length : Nat) ∧ (places (nums es) k).length ≤ W ∧ HRow w3 K W g (places (nums es) k) (counts (nums es) k) wr) (fun _ _ _ _ _ i _ => es.length - (intOf i).toNat)
    case atStart => exact ⟨0, by omega, rfl, rfl, Nat.zero_le _, HS0.out⟩
    case round =>
      obtain ⟨k, hkK, rfl, rfl, hW, hrow⟩ := hrel
      have HR := Lib.hid hrow
      have HW := Lib.hid hW
      clear hrow HS0
      by_cases hlt : k < es.length
      · have HSK := Lib.hid (HSH.out.2 k (by omega))
        have e0 : plTo (nums es) k 0 = places (nums es) k := plTo_zero _ _
        have HST : Hid (HRow w3 K W g (plTo (nums es) k 0) (counts (nums es) k) wr ∧ (plTo (nums es) k 0).length ≤ W ∧ (places (nums es) k).length = (plTo (nums es) k 0).length) := by show _ ∧ _ ∧ _; rw [e0]; exact ⟨HR.out, HW.out, rfl⟩
        obtain ⟨⟨a, e, _, ha⟩, hf⟩ := (H3.out.next HR.out.2) k hlt
        subst e
        have hnk := nums_at es hlt
        have HNK := Lib.hid hnk
        have hlen := HSK.out.1
        rw [hnk] at hlen
        have le0 : es[k].l.length ≤ 256 := by omega
        have le1 : 256 ≤ es[k].l.length := by omega
        have H3k := Lib.hid (H3.out k hlt).2
        clear e0 HR HW hW hf hnk hlen
        generalize (places (nums es) k).length = pk at HST
        generalize es[k].c = ce at ha
        generalize es[k].A = Ae at ha H3k
        generalize es[k].l = le at ha H3k HNK le0 le1
        go_wp2
        go_loopw [10, 13, 14, 45] (fun n _ _ i wr => ∃ t : Nat, t ≤ le.length ∧ i = .int .i64 t ∧ n = .int .i64 ((plTo (nums es) k t).length : Nat) ∧ (plTo (nums es) k t).length ≤ W ∧ HRow w3 K W g (plTo (nums es) k t) (counts (nums es) k) wr) (fun _ _ _ i _ => le.length - (intOf i).toNat)
        case atStart => exact ⟨0, by omega, rfl, by rw [HST.out.2.2], HST.out.2.1, HST.out.1⟩
        case round =>
          obtain ⟨t, ht, rfl, rfl, hWt, hrow⟩ := hrel
          have HR := Lib.hid hrow
          have c5 : wr.cell? ⟨gs, 5, none⟩ = some (.int .i64 W) := (HN3.out.next hrow.2).cell 5
          clear hrow HST
          by_cases ht2 : t < le.length
          · obtain ⟨b, eb, _, hbc⟩ := (H3k.out.below HR.out.2) t ht2
            have h01 := HSK.out.2 t (by omega)
            rw [HNK.out] at h01
            have HP1 : Hid (le.getD t 0 = 1 → plTo (nums es) k (t + 1) = plTo (nums es) k t ++ [t]) := fun e => plTo_one (by rw [HNK.out]; exact e)
            have HP2 : Hid (le.getD t 0 ≠ 1 → plTo (nums es) k (t + 1) = plTo (nums es) k t) := fun e => plTo_not (by rw [HNK.out]; exact e)
            subst eb
            generalize le.getD t 0 = x at hbc h01 HP1 HP2
            rcases h01 with rfl | rfl
            · have HNX := Lib.hid (HP2.out (by omega))
              go_wp2
              go_roundw
              case rel => exact ⟨t + 1, by omega, by go_num, by rw [HNX.out], by rw [HNX.out]; exact hWt, by rw [HNX.out]; exact HR.out⟩
              case measure => simp [intOf]; omega
            · have HNX := Lib.hid (HP1.out rfl)
              obtain ⟨pn, hpn⟩ : ∃ pn, pn = (plTo (nums es) k t).length := ⟨_, rfl⟩
              have HPN := Lib.hid hpn
              rw [← hpn] at hWt ⊢
              clear hpn
              by_cases hfull : pn = W
              · have d : ((pn : Int) == (W : Int)) = true := by rw [beq_iff_eq]; omega
                have HOV : Hid (W < (places (nums es) K).length) := by
                  have := plTo_le (nums es) (i := k) (t := t + 1) (K := K) (by omega) (by omega)
                  rw [HNX.out, List.length_append, ← HPN.out] at this
                  simp at this
                  show W < _
                  omega
                have hbw := HR.out.2
                have HBW := Lib.hid hbw
                clear hfull hbw
                go_wp2
                go_ret2
                rw [hintsE_over HSH.out HOV.out]
                unfold hintsB
                rw [hintsE_over HSH.out HOV.out, if_neg (by omega)]
                exact resF_nil rfl (isF_new (by decide)) (((below_next HB3.out HBW.out).alloc (below_next HB3.out HBW.out).size _))
              · have d : ((pn : Int) == (W : Int)) = false := by rw [beq_eq_false_iff_ne]; omega
                have hpW : pn < W := by omega
                have cO := own_cell HR.out.1 (k := pn) (by omega)
                have fO := HR.out.1.frozenAt pn
                have hnr : HRow w3 K W g (plTo (nums es) k (t + 1)) (counts (nums es) k) (wr.setCell ⟨g, pn, none⟩ (.int .u8 t)) := by
                  refine ⟨?_, HR.out.2.setCell (own_block HR.out.1).1 _⟩
                  rw [HNX.out, ← outL_put (by rw [← HPN.out]; exact hpW) t, ← HPN.out]
                  exact own_set HR.out.1 pn _
                have HNR := Lib.hid hnr
                have w8 : IntKind.u8.wrap (t : Int) = t := by simp [IntKind.wrap, IntKind.bits, IntKind.signed]; omega
                generalize (outL K W (plTo (nums es) k t) (counts (nums es) k)).getD pn 0 = ov at cO
                clear hnr hfull
                go_wp2
                go_roundw
                case rel => exact ⟨t + 1, by omega, by go_num, by rw [HNX.out, List.length_append, ← HPN.out]; go_num, by rw [HNX.out, List.length_append, ← HPN.out]; simp; omega, HNR.out⟩
                case measure => simp [intOf]; omega
          · have e : t = 256 := by omega
            have HPF : Hid (plTo (nums es) k t = places (nums es) (k + 1)) := by show _ = _; rw [e]; exact plTo_full _ _
            clear e
            obtain ⟨pn, hpn⟩ : ∃ pn, pn = (plTo (nums es) k t).length := ⟨_, rfl⟩
            have HPN := Lib.hid hpn
            rw [← hpn] at hWt ⊢
            clear hpn
            have cO := own_cell HR.out.1 (k := W + k) (by omega)
            have fO := HR.out.1.frozenAt (W + k)
            have hnr : HRow w3 K W g (places (nums es) (k + 1)) (counts (nums es) (k + 1)) (wr.setCell ⟨g, W + k, none⟩ (.int .u8 pn)) := by
              refine ⟨?_, HR.out.2.setCell (own_block HR.out.1).1 _⟩
              have e1 := outL_count (K := K) (W := W) (P := plTo (nums es) k t) (C := counts (nums es) k) (by rw [← HPN.out]; exact hWt) (by rw [counts_len]; omega) (pn : Int)
              rw [counts_len] at e1
              have e2 : counts (nums es) (k + 1) = counts (nums es) k ++ [(pn : Int)] := by rw [counts_succ, ← HPF.out, ← HPN.out]
              rw [e2, ← HPF.out, ← e1]
              exact own_set HR.out.1 (W + k) _
            have HNR := Lib.hid hnr
            have w8 : IntKind.u8.wrap (pn : Int) = pn := by simp [IntKind.wrap, IntKind.bits, IntKind.signed]; omega
            generalize (outL K W (plTo (nums es) k t) (counts (nums es) k)).getD (W + k) 0 = ov at cO
            clear hnr
            go_wp2
            go_roundw
            case rel => exact ⟨k + 1, by omega, by go_num, by rw [← HPF.out, ← HPN.out], by rw [← HPF.out, ← HPN.out]; exact hWt, HNR.out⟩
            case measure => simp [intOf]; omega
      · have e : k = K := by omega
        subst e
        go_wp2
        go_ret2
        rw [hintsE_ok HSH.out HW.out]
        unfold hintsB
        rw [hintsE_ok HSH.out HW.out, if_pos rfl]
        have ho := HR.out.1
        have hle : (hintsL k W (nums es)).length = W + k := outL_len HW.out (by rw [counts_len]; exact Nat.le_refl _)
        refine ⟨some ⟨g, 0, none⟩, W + k, .nilIface, ?_, ?_, isF_nil _, below_next HB3.out HR.out.2⟩
        · rw [hle]; first | rfl | (rw [← hgg]; rfl)
        · rw [hle]; exact own_down ho HB3.out.size
  · obtain ⟨p, rfl⟩ := isF_some hv (by decide)
    have HV := Lib.hid hv
    have HBAD : Hid (¬ HintShape K (nums es)) := fun g => hno (okLists2.2 g)
    clear hno hv
    go_wp2
    go_ret2
    rw [hintsE_shape HBAD.out]
    unfold hintsB
    rw [hintsE_shape HBAD.out, if_neg (by omega)]
    exact resF_nil rfl HV.out HB3.out

set_option maxRecDepth 100000 in
set_option maxHeartbeats 2000000 in
theorem laidHints_no (s : Int) (A : Option Addr) (c n : Nat) (w : World) (hs : ¬ setB s = true) :
    Calls Tryd.prog 50 #[.int .i64 s, .slice A n c] w (ResF w [] 2) := by
  have hs' : setB s = false := by simpa using hs
  have HX := Lib.hid (set_none hs')
  have HS := Lib.hid hs'
  clear hs hs'
  go_enter Tryd.func50, Tryd.ntmps50
  go_wp2_with (go_at_call 63; refine (haveSet_no s _ HS.out).mono ?_; rw [HX.out]; rintro e w1 ⟨v, rfl, hv, hb⟩; obtain ⟨p, rfl⟩ := isF_some hv (by decide); have HB := Lib.hid hb; have HV := Lib.hid hv; clear hb hv)
  go_ret2
  exact resF_nil rfl (HV.out.next ((Below.refl _ _).alloc (Nat.le_refl _) _)) (HB.out.alloc HB.out.size _)
theorem laidHints_any (s : Int) (A : Option Addr) (c : Nat) (es : List Ent) (w : World) (h : HasL w w.heap.size A es) (hn : es.length ≤ 4000) :
    Calls Tryd.prog 50 #[.int .i64 s, .slice A es.length c] w (ResF w (hB s (nums es)) (hE s (nums es))) := by
  by_cases hs : setB s = true
  · unfold hB hE
    rw [if_pos hs, if_pos hs]
    exact laidHints_in s A c es w hs h hn
  · unfold hB hE
    rw [if_neg hs, if_neg hs]
    exact laidHints_no s A c _ w hs

set_option maxHeartbeats 1000000 in
theorem pHints_any (s : Int) (A : Option Addr) (c : Nat) (es : List Ent) (w : World) (h : HasL w w.heap.size A es) (hn : es.length ≤ 4000) :
    Calls Tryd.prog 27 #[.int .i64 s, .slice A es.length c] w (ResP w (hB s (nums es)) (hE s (nums es))) := by
  have H := Lib.hid h
  clear h
  go_enter Tryd.func27, Tryd.ntmps27
  go_wp2_with (first
    | (go_at_call 50; refine (laidHints_any s A c es _ H.out hn).mono ?_; rintro e w1 ⟨A1, c1, v, rfl, ho, hv, hb⟩; have HO := Lib.hid ho; have HV := Lib.hid hv; have HB := Lib.hid hb; clear ho hv hb)
    | (go_at_call 51; refine (wrap_any _ _ v _ HV.out).mono ?_; rintro e w2 ⟨v2, rfl, hv2, hb2⟩; have HV2 := Lib.hid hv2; have HB2 := Lib.hid hb2; clear hv2 hb2))
  go_ret2
  exact ⟨A1, c1, v2, rfl, own_next HO.out HB2.out, HV2.out, below_next HB.out HB2.out⟩
end Go.Proofs.YtoigpehpgpogfaaDoor
