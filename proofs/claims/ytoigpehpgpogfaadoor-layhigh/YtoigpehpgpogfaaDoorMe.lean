/- Contract: hints out of bytes, by the document's own code. -/
import Derived.Test.YtoigpehpgpogfaaDoorMd
import Derived.Laws.BytesArg
namespace Go.Proofs.YtoigpehpgpogfaaDoor
open Go.RowKit Slices Go.Proofs.YtoigpehpgpogfaaDoor.Bit

/-- lists and an error's number are told -/
def ResU (w : World) (L : List (List Int)) (E : Int) (e : Ending) (w' : World) : Prop :=
  ∃ A c es, e = .returned (.tuple #[.slice A es.length c, .int .i64 E]) ∧ OwnL w.heap.size (.slice A es.length c) es w' ∧ nums es = L ∧ Below w.heap.size w w'
theorem resU_nil {w w' : World} {E : Int} {e : Ending} (he : e = .returned (.tuple #[.slice none 0 0, .int .i64 E])) (hb : Below w.heap.size w w') : ResU w [] E e w' :=
  ⟨none, 0, [], he, ⟨World.ownsRow_nil _ _ _ _, fun e he => by cases he⟩, rfl, hb⟩
theorem conv_has {w : World} {B n c : Nat} {A : Option Addr} {l : List Int} (h : Has .u8 w B A l) (hn : l.length = n) : (convert 23 9 (.slice A n c)).run Tryd.prog w = .ok (.string (strOfNums l)) w := by
  subst hn
  rcases A with _ | a
  · have h0 : l = [] := by
      cases l with
      | nil => rfl
      | cons x r => obtain ⟨a, e, _⟩ := h 0 (by simp); cases e
    subst h0
    exact run_convert_bytes_nil w 23 5 Tryd.underlying23 Tryd.underlying5 _ c 9 Tryd.underlying9
  · have hl := run_loadCells_list (P := Tryd.prog) w a (l.map (Value.int .u8)) (fun j v hj => h.cells a rfl j v hj)
    rw [List.length_map] at hl
    rw [run_convert_bytes_string w 23 9 5 _ l.length c Tryd.underlying23 Tryd.underlying5 Tryd.underlying9, run_bytesToString w _ l.length c l hl, foldl_push_bytes]
    simp [strOfNums, ByteArray.empty, ByteArray.emptyWithCapacity]
    rfl
theorem str_inj {l l' : List Int} (hf : Fit 8 l) (hf' : Fit 8 l') (h : strOfNums l = strOfNums l') : l = l' := by
  have h1 : (l.map fun n => UInt8.ofNat n.toNat) = l'.map fun n => UInt8.ofNat n.toNat := by
    unfold strOfNums at h
    simpa using h
  have hl : l.length = l'.length := by simpa using congrArg List.length h1
  apply List.ext_getElem hl
  intro i hi hi'
  have e := congrArg (fun x => x[i]?) h1
  simp only [List.getElem?_map, List.getElem?_eq_getElem hi, List.getElem?_eq_getElem hi', Option.map_some, Option.some.injEq] at e
  have f1 := hf i hi
  have f2 := hf' i hi'
  rw [List.getD_eq_getElem?_getD, List.getElem?_eq_getElem hi] at f1
  rw [List.getD_eq_getElem?_getD, List.getElem?_eq_getElem hi'] at f2
  simp only [Option.getD_some] at f1 f2
  have e2 := congrArg UInt8.toNat e
  simp only [UInt8.toNat_ofNat'] at e2
  have g1 : l[i].toNat < 256 := by omega
  have g2 : l'[i].toNat < 256 := by omega
  omega
theorem str_same (l : List Int) : ((strOfNums l).toList == (strOfNums l).toList) = true := by rw [beq_iff_eq]
theorem str_other {l l' : List Int} (h : strOfNums l ≠ strOfNums l') : ((strOfNums l).toList == (strOfNums l').toList) = false := by
  rw [beq_eq_false_iff_ne]
  intro e
  rw [ByteArray.toList_eq, ByteArray.toList_eq] at e
  exact h (ByteArray.ext (Array.toList_inj.mp e))
theorem places_lt (h : List (List Int)) : ∀ (i x : Nat), x ∈ places h i → x < 256 := by
  intro i
  induction i with
  | zero => intro x hx; cases hx
  | succ i ih =>
    intro x hx
    have hx' : x ∈ places h i ++ oneAt (h.getD i []) 256 := hx
    rw [List.mem_append] at hx'
    rcases hx' with g | g
    · exact ih x g
    · exact oneAt_lt _ _ x g
theorem hints_fit {K W : Nat} {h : List (List Int)} (hW : W ≤ 255) (hP : (places h K).length ≤ W) : Fit 8 (hintsL K W h) := by
  have hall : ∀ x ∈ hintsL K W h, 0 ≤ x ∧ x < 256 := by
    intro x hx
    unfold hintsL outL at hx
    simp only [List.mem_append] at hx
    rcases hx with (hx | hx) | (hx | hx)
    · unfold int at hx
      rw [List.mem_map] at hx
      obtain ⟨y, hy, rfl⟩ := hx
      have := places_lt h K y hy
      exact ⟨Int.natCast_nonneg _, by show (y : Int) < 256; omega⟩
    · rw [List.mem_replicate] at hx; omega
    · unfold counts at hx
      rw [List.mem_map] at hx
      obtain ⟨y, hy, rfl⟩ := hx
      have := places_le h (i := y + 1) (j := K) (by have := List.mem_range.mp hy; omega)
      omega
    · rw [List.mem_replicate] at hx; omega
  intro i hi
  have := hall _ (List.getElem_mem hi)
  rw [List.getD_eq_getElem?_getD, List.getElem?_eq_getElem hi]
  simpa using this
/-- what is read so far -/
def HuRow (w : World) (W : Nat) (b : List Int) (k : Nat) (v : Value) (es : List Ent) (wr : World) : Prop :=
  es.length = k ∧ nums es = readL W b k ∧ OwnL w.heap.size v es wr ∧ Below w.heap.size w wr
/-- a poly under way -/
def MRow (w : World) (N g : Nat) (l : List Int) (wr : World) : Prop :=
  wr.ownsRow w.heap.size 3 1 (.slice (some ⟨g, 0, none⟩) N N) N (ints .i64 l) ∧ Below w.heap.size w wr
theorem addr_pos (a : Addr) {n : Nat} (h : 0 < n) : a.add n = { block := a.block, off := a.off + n } := by unfold Addr.add; rw [if_neg (by omega)]

set_option maxRecDepth 100000 in
set_option maxHeartbeats 8000000 in
theorem refUnhint_in (s : Int) (A : Option Addr) (c : Nat) (b : List Int) (w : World) (hs : setB s = true) (h : Has .u8 w w.heap.size A b) (hf : Fit 8 b) (K W : Nat) (hK : K = kOf s) (hW : W = wOf s) (hlen : b.length = W + K) (E : Int) (L : List (List Int))
    (hEL : (hintsE K W (readL W b K) = 0 ∧ hintsL K W (readL W b K) = b → E = 0 ∧ L = readL W b K) ∧ (¬ (hintsE K W (readL W b K) = 0 ∧ hintsL K W (readL W b K) = b) → E = 4 ∧ L = [])) :
    Calls Tryd.prog 30 #[.int .i64 s, .slice A b.length c] w (ResU w L E) := by
  obtain ⟨x1, x2, x3, x4, x6, x7, x8, hx⟩ := set_kw hs
  obtain ⟨K0, K1, W0, W1⟩ := kw_bd s
  rw [← hK, ← hW] at hx
  rw [← hK] at K0 K1
  rw [← hW] at W0 W1
  have HKW : Hid (K = kOf s ∧ W = wOf s) := ⟨hK, hW⟩
  have HX := Lib.hid hx
  have HS := Lib.hid hs
  have H := Lib.hid h
  have HF := Lib.hid hf
  have HEL := Lib.hid hEL
  have t1 : ((b.length : Int) != (W : Int) + (K : Int)) = false := by rw [bne_eq_false_iff_eq]; omega
  have b0 : b.length ≤ W + K := by omega
  have b1 : W + K ≤ b.length := by omega
  clear hx h hs hf hEL hK hW hlen
  obtain ⟨i0, hi0, hz0, hz1, hz2⟩ := info_parts Tryd.info3
  obtain ⟨j0, hj0, hy0, hy1, hy2⟩ := info_parts Tryd.infoInts
  obtain ⟨N, hN⟩ : ∃ N : Nat, N = 256 := ⟨_, rfl⟩
  have n0 : N ≤ 256 := by omega
  have n1 : 256 ≤ N := by omega
  have HN := Lib.hid hN
  clear hN
  go_enter Tryd.func30, Tryd.ntmps30
  go_wp2_with (go_at_call 14; refine (refSet_any s _).mono ?_; rw [HX.out, HS.out]; rintro e w1 ⟨rfl, hb⟩; have HB := Lib.hid hb; clear hb)
  have hb2 : Below w.heap.size w (w1.alloc (.cells #[.int .i64 K, .int .i64 x1, .int .i64 x2, .int .i64 x3, .int .i64 x4, .int .i64 W, .int .i64 x6, .int .i64 x7, .int .i64 x8] 33)) := HB.out.alloc HB.out.size _
  have hn2 := Nine.new w1 33 #[.int .i64 K, .int .i64 x1, .int .i64 x2, .int .i64 x3, .int .i64 x4, .int .i64 W, .int .i64 x6, .int .i64 x7, .int .i64 x8]
  generalize w1.heap.size = gs at hn2
  generalize World.alloc _ _ = w2 at hb2 hn2 ⊢
  have H2 := Lib.hid (has_next H.out hb2)
  have HB2 := Lib.hid hb2
  have HN2 := Lib.hid hn2
  clear HB hb2 hn2
  have HS0 : Hid (HuRow w2 W b 0 (.slice none 0 0) [] w2) := ⟨rfl, rfl, ⟨World.ownsRow_nil _ _ _ _, fun e he => by cases he⟩, Below.refl _ _⟩
  go_loopw [8, 9, 10] (fun v n i wr => ∃ (k : Nat) (es : List Ent), k ≤ K ∧ i = .int .i64 k ∧ n = .int .i64 (endAt W b k : Nat) ∧ HuRow w2 W b k v es wr) (fun _ _ i _ => K - (intOf i).toNat)
  case atStart => exact ⟨0, [], by omega, rfl, rfl, HS0.out⟩
  case round =>
    obtain ⟨k, es, hkK, rfl, rfl, hrow⟩ := hrel
    have HR := Lib.hid hrow
    have c0 : wr.cell? ⟨gs, 0, none⟩ = some (.int .i64 K) := (HN2.out.next hrow.2.2.2).cell 0
    have hen := endAt_le W b k
    clear hrow HS0
    by_cases hlt : k < K
    · have bk : decide ((k : Int) < (K : Int)) = true := by rw [decide_eq_true_iff]; omega
      have he1 := endAt_le W b (k + 1)
      have hst : endAt W b (k + 1) = max (endAt W b k) (min W (b.getD (W + k) 0).toNat) := rfl
      obtain ⟨y, hy, hy2', _⟩ := HF.out.at (i := W + k) (by omega)
      rw [hy] at hst
      have hst2 : endAt W b (k + 1) = max (endAt W b k) (min W y) := by rw [hst]; simp
      generalize hp : endAt W b k = p at hen hst2 ⊢
      generalize hq : endAt W b (k + 1) = q at he1 hst2
      have HPQ : Hid (readP W b k = mark b p (q - p)) := by show readP W b k = _; unfold readP; rw [hp, hq]
      have HQ := Lib.hid hq
      have HY := Lib.hid hy
      have y256 : y < 256 := hy2'
      clear hst hp hq hy hy2'
      go_wp2_with (at_make; refine wpList_make_full _ rfl _ _ 22 rfl wr.heap.size 3 i0 (.int .i64 0) 1 Tryd.underlying22 hi0 hz0 hz1 _ _ _ _ N rfl rfl (by omega) (by omega) (by rw [hz2]; omega) (by unfold maxLen; omega) (Nat.le_refl _) ?_; intro w3 hown hgrow; rw [made_ints] at hown; have HO := Lib.hid hown; clear hown; have HG := Lib.hid hgrow; clear hgrow)
      have HM0 : Hid (MRow wr N wr.heap.size (mark b p (p - p)) w3) := ⟨by rw [Nat.sub_self]; show w3.ownsRow _ _ _ _ _ (ints .i64 (List.replicate 256 0)); rw [← HN.out]; exact HO.out, (Below.refl _ _).grown HG.out (Nat.le_refl _) (by simp)⟩
      generalize hgg : wr.heap.size = g at HM0
      have HGG := Lib.hid hgg
      clear HO HG c0 hgg
      go_loopw [9] (fun n wi => ∃ m : Nat, p ≤ m ∧ m ≤ q ∧ n = .int .i64 m ∧ MRow wr N g (mark b p (m - p)) wi) (fun n _ => q - (intOf n).toNat)
      case atStart => exact ⟨p, by omega, by omega, rfl, HM0.out⟩
      case round =>
        rename World => wi
        obtain ⟨m, hm0, hm1, rfl, hmr⟩ := hrel
        have HMR := Lib.hid hmr
        have hbw : Below w2.heap.size w2 wi := below_next HR.out.2.2.2 hmr.2
        have c0 : wi.cell? ⟨gs, 0, none⟩ = some (.int .i64 K) := (HN2.out.next hbw).cell 0
        have c5 : wi.cell? ⟨gs, 5, none⟩ = some (.int .i64 W) := (HN2.out.next hbw).cell 5
        have hbh := H2.out.below hbw
        obtain ⟨ab, rfl, hab, hac0⟩ := hbh (W + k) (by omega)
        rw [HY.out] at hac0
        have hac : wi.cell? { block := ab.block, off := ab.off + (W + k) } = some (.int .u8 y) := by rw [← addr_pos ab (by omega)]; exact hac0
        clear hmr HM0
        by_cases hmq : m < q
        · have d1 : decide ((m : Int) < (y : Int)) = true := by rw [decide_eq_true_iff]; omega
          have d2 : decide ((m : Int) < (W : Int)) = true := by rw [decide_eq_true_iff]; omega
          obtain ⟨z, hz, hz2', _⟩ := HF.out.at (i := m) (by omega)
          obtain ⟨_, e, _, hbm⟩ := hbh m (by omega)
          injection e with e
          subst e
          rw [hz] at hbm
          have z256 : z < 256 := hz2'
          have cM := own_cell HMR.out.1 (k := z) (by omega)
          have fM := HMR.out.1.frozenAt z
          have hnx : MRow wr N g (mark b p (m + 1 - p)) (wi.setCell ⟨g, z, none⟩ (.int .i64 1)) := by
            refine ⟨?_, HMR.out.2.setCell (own_block HMR.out.1).1 _⟩
            have e1 : m + 1 - p = (m - p) + 1 := by omega
            rw [e1]
            show (wi.setCell _ _).ownsRow _ _ _ _ _ (ints .i64 ((mark b p (m - p)).set (b.getD (p + (m - p)) 0).toNat 1))
            rw [show p + (m - p) = m from by omega, hz]
            exact own_set HMR.out.1 z _
          have HNX := Lib.hid hnx
          generalize (mark b p (m - p)).getD z 0 = ov at cM
          clear hnx hbh hbw hz hz2'
          go_wp2
          go_roundw
          case rel => exact ⟨m + 1, by omega, by omega, by go_num, HNX.out⟩
          case measure => simp [intOf]; omega
        · have e : m = q := by omega
          subst e
          clear hbh
          have HES : Hid (es.length = k) := HR.out.1
          have HML : Hid (mark b p (m - p) = readP W b k) := HPQ.out.symm
          have lm : (mark b p (m - p)).length = N := by rw [mark_len, ← HN.out]
          have HLM := Lib.hid lm
          have hwi : Below wr.heap.size wr wi := HMR.out.2
          have HWI := Lib.hid hwi
          have hsz : w2.heap.size ≤ wi.heap.size := hbw.size
          have HBW := Lib.hid hbw
          have h01 : decide ((m : Int) < (y : Int)) = false ∨ (decide ((m : Int) < (y : Int)) = true ∧ decide ((m : Int) < (W : Int)) = false) := by
            by_cases hym : y ≤ m
            · exact .inl (by rw [decide_eq_false_iff_not]; omega)
            · exact .inr ⟨by rw [decide_eq_true_iff]; omega, by rw [decide_eq_false_iff_not]; omega⟩
          clear lm hwi hbw
          rcases h01 with d1 | ⟨d1, d2⟩
          all_goals
            go_wp2_with (at_builtin; refine append_any _ rfl (.tmp 60) (.tmp 62) 45 rfl w2.heap.size 22 j0 (.slice none 0 0) 1 24 Tryd.underlying45 hj0 hy0 hy1 hy2 rfl (by decide) u8 k _ rfl (by have := (HR.out.2.2.1.next HWI.out).1; rw [HES.out] at this; exact this.alloc _) (some ⟨wi.heap.size, 0, none⟩) 1 1 [.slice (some ⟨g, 0, none⟩) N N] rfl rfl (fun h => by cases h) (fun ad e => by injection e with e; subst e; exact World.news_of_block (cs := #[.slice (some ⟨g, 0, none⟩) N N]) (t := 22) (fr := (0, 0)) (heap_alloc_new wi _)) (by simp [Value.oneCell']) (by unfold maxLen; omega) (by omega) (by simp; omega) ?_; intro v4 w4 hown4 hgrow4; have O4 := Lib.hid hown4; have G4 := Lib.hid hgrow4; clear hown4 hgrow4)
            all_goals
              have hP4 : OwnL w2.heap.size v4 (es ++ [⟨some ⟨g, 0, none⟩, N, mark b p (m - p)⟩]) w4 := by
                refine OwnL.push (HR.out.2.2.1.next HWI.out) (e := ⟨some ⟨g, 0, none⟩, N, mark b p (m - p)⟩) ?_ ((Below.refl _ _).alloc (Nat.le_refl _) _) G4.out ?_
                · have := own_down HMR.out.1 HR.out.2.2.2.size
                  show wi.ownsRow _ _ _ (.slice _ (mark b p (m - p)).length _) (mark b p (m - p)).length _
                  rw [HLM.out]; exact this
                · rw [HES.out]
                  show w4.ownsRow _ _ _ _ _ (_ ++ [.slice _ (mark b p (m - p)).length _])
                  rw [HLM.out]; exact O4.out
              have hB4 : Below w2.heap.size w2 w4 := (HBW.out.alloc hsz _).grown G4.out (by simp; omega) (fun j hj => (HR.out.2.2.1.1.lt j hj).1)
              have HP4 := Lib.hid hP4
              have HB4 := Lib.hid hB4
              clear hP4 hB4
              go_wp2
              go_roundw
              case rel =>
                refine ⟨k + 1, es ++ [⟨some ⟨g, 0, none⟩, N, mark b p (m - p)⟩], by omega, by go_num, by rw [HQ.out]; (first | rfl | (congr 2; omega)), by rw [List.length_append, HES.out]; rfl, ?_, HP4.out, HB4.out⟩
                rw [readL_succ, ← HR.out.2.1, ← HML.out]
                unfold nums
                rw [List.map_append]; rfl
              case measure => simp [intOf]; omega
    · have bk : decide ((k : Int) < (K : Int)) = false := by rw [decide_eq_false_iff_not]; omega
      have e : k = K := by omega
      subst e
      obtain ⟨Av, cv, hv⟩ := own_slice HR.out.2.2.1.1
      subst hv
      have HHL := Lib.hid HR.out.2.2.1.has
      have HNU : Hid (nums es = readL W b k) := HR.out.2.1
      have HLS : Hid (∀ i (h : i < es.length), es[i].l.length ≤ 4000) := fun i h => by
        have h1 := nums_at es h
        have h2 : (nums es).getD i [] = readP W b i := by
          rw [HNU.out]; unfold readL
          rw [List.getD_eq_getElem?_getD, List.getElem?_map, List.getElem?_range (by have := HR.out.1; omega)]; rfl
        rw [← h1, h2]
        unfold readP
        rw [mark_len]; omega
      have hee : hE s (nums es) = hintsE k W (readL W b k) ∧ hB s (nums es) = hintsB k W (readL W b k) := by
        unfold hE hB
        rw [if_pos HS.out, if_pos HS.out, ← HKW.out.1, ← HKW.out.2, HNU.out]; exact ⟨rfl, rfl⟩
      have HEE := Lib.hid hee
      have e1 : es.length ≤ k := by have := HR.out.1; omega
      clear hee
      have hbw2 := HR.out.2.2.2
      have HBR := Lib.hid hbw2
      have HOL := Lib.hid HR.out.2.2.1
      clear hbw2
      by_cases hE0 : hintsE k W (readL W b k) = 0
      · have hB0 : hintsB k W (readL W b k) = hintsL k W (readL W b k) := by unfold hintsB; rw [if_pos hE0]
        have hP : (places (readL W b k) k).length ≤ W := by
          rcases Nat.lt_or_ge W (places (readL W b k) k).length with g | g
          · unfold hintsE at hE0
            split at hE0
            · first | omega | (rw [if_pos g] at hE0; omega)
            · omega
          · exact g
        have HFX := Lib.hid (hints_fit (K := k) (W := W) (h := readL W b k) (by omega) hP)
        have HE0 := Lib.hid hE0
        have HB0 := Lib.hid hB0
        obtain ⟨X, hX⟩ : ∃ X, X = hintsL k W (readL W b k) := ⟨_, rfl⟩
        have HXX := Lib.hid hX
        clear hE0 hB0 hP hX
        by_cases hxb : X = b
        · have hneq : ((strOfNums X).toList == (strOfNums b).toList) = true := by rw [hxb]; exact str_same b
          have HXB := Lib.hid hxb
          clear hxb
          go_wp2_with (go_at_call 28; refine (refHints_any s Av cv es _ HHL.out (by omega) HLS.out).mono ?_; rw [HEE.out.1, HEE.out.2, HE0.out, HB0.out, ← HXX.out]; rintro e w5 ⟨A5, c5, rfl, ho, hb⟩; have m1 := conv_has (c := c5) (own_read ho) rfl; have m2 := conv_has (c := c) (has_next (has_next H2.out HBR.out) hb) rfl; have HB5 := Lib.hid hb; clear ho hb)
          go_ret2
          obtain ⟨rfl, rfl⟩ := HEL.out.1 ⟨HE0.out, by rw [← HXX.out]; exact HXB.out⟩
          exact ⟨Av, cv, es, rfl, ⟨own_down (own_keep HOL.out.1 HB5.out) HB2.out.size, fun e he => own_down (own_keep (HOL.out.2 e he) HB5.out) HB2.out.size⟩, HNU.out, below_next (below_next HB2.out HBR.out) HB5.out⟩
        · have hneq : ((strOfNums X).toList == (strOfNums b).toList) = false := str_other fun g => hxb (str_inj (by rw [HXX.out]; exact HFX.out) HF.out g)
          have HXB : Hid (¬ (hintsE k W (readL W b k) = 0 ∧ hintsL k W (readL W b k) = b)) := fun g => hxb (by rw [HXX.out]; exact g.2)
          clear hxb
          go_wp2_with (go_at_call 28; refine (refHints_any s Av cv es _ HHL.out (by omega) HLS.out).mono ?_; rw [HEE.out.1, HEE.out.2, HE0.out, HB0.out, ← HXX.out]; rintro e w5 ⟨A5, c5, rfl, ho, hb⟩; have m1 := conv_has (c := c5) (own_read ho) rfl; have m2 := conv_has (c := c) (has_next (has_next H2.out HBR.out) hb) rfl; have HB5 := Lib.hid hb; clear ho hb)
          go_ret2
          obtain ⟨rfl, rfl⟩ := HEL.out.2 HXB.out
          exact resU_nil rfl (below_next (below_next HB2.out HBR.out) HB5.out)
      · have hne : (hintsE k W (readL W b k) != 0) = true := by rw [bne_iff_ne]; exact hE0
        have HXB : Hid (¬ (hintsE k W (readL W b k) = 0 ∧ hintsL k W (readL W b k) = b)) := fun g => hE0 g.1
        clear hE0
        go_wp2_with (go_at_call 28; refine (refHints_any s Av cv es _ HHL.out (by omega) HLS.out).mono ?_; rw [HEE.out.1, HEE.out.2]; rintro e w5 ⟨A5, c5, rfl, ho, hb⟩; have HB5 := Lib.hid hb; clear ho hb)
        go_ret2
        obtain ⟨rfl, rfl⟩ := HEL.out.2 HXB.out
        exact resU_nil rfl (below_next (below_next HB2.out HBR.out) HB5.out)
end Go.Proofs.YtoigpehpgpogfaaDoor
