/- Several texts in one: Ni, Nj. -/
import Derived.Test.YtoigpehpgpogfaaDoorNg
import Derived.Lib.AppendZeros
/- Contracts: lists one behind the other (slices.Concat), by the library's own code. -/
namespace Go.Proofs.YtoigpehpgpogfaaDoor
open Go.RowKit Slices Go.Proofs.YtoigpehpgpogfaaDoor.Bit

theorem zeroCells_size (z : Value) (hz : z.cells.size = 1) (n : Nat) : (Builtin.zeroCells z.cells n).size = n := by
  simp [Builtin.zeroCells, hz]

set_option maxRecDepth 100000 in
set_option maxHeartbeats 1000000 in
theorem grow_nil (n : Nat) (w : World) (h1 : 1 ≤ n) (hn : n ≤ 100000) :
    Calls Tryd.prog 78 #[.slice none 0 0, .int .i64 n] w fun e w' => ∃ v, e = .returned v ∧ w'.ownsRow w.heap.size 3 1 v 0 [] ∧ Below w.heap.size w w' := by
  obtain ⟨i0, hi0, hz0, hz1, hz2⟩ := info_parts Tryd.info3
  have hr := fun ty => Lib.run_append_nil_zeros (P := Tryd.prog) w 22 3 ty 3 i0 (.int .i64 0) .i64 .i64 Tryd.underlying22 Tryd.underlying3 hi0 hz0 n (by omega) (by omega) (by omega) (by rw [hz2]; omega)
  have hge := grownCap_ge w n 0 3
  have hle := grownCap_le_maxLen w n 0 3 (by unfold maxLen; omega)
  generalize grownCap w n 0 3 = C at hr hge hle
  have HR := Lib.hid hr
  have HLE := Lib.hid hle
  clear hr hle
  go_enter Tryd.func78, Tryd.ntmps78
  go_wp2_with (at_builtin; refine Lib.wpList_append_run _ rfl _ _ _ _ rfl _ _ rfl rfl _ _ (HR.out _) ?_)
  go_ret
  refine ⟨_, rfl, ⟨rfl, .inr ⟨w.heap.size, C, _, rfl, Nat.le_refl _, heap_alloc_new w _, Nat.zero_le _, HLE.out, ?_, by simp⟩⟩, ((Below.refl _ _).alloc (Nat.le_refl _) _).drew⟩
  rw [Array.size_append, Nat.mul_one]
  have e1 := zeroCells_size (.int .i64 0) rfl n
  have e2 := zeroCells_size (.int .i64 0) rfl (C - n)
  have e1' : (Builtin.zeroCells #[Value.int IntKind.i64 0] n).size = n := e1
  have e2' : (Builtin.zeroCells #[Value.int IntKind.i64 0] (C - n)).size = C - n := e2
  omega

/-- the first i lists, one behind the other -/
def flatTo (h : List (List Int)) : Nat → List Int
  | 0 => []
  | i + 1 => flatTo h i ++ h.getD i []
theorem flatTo_len {h : List (List Int)} : ∀ k, (∀ i, i < k → (h.getD i []).length = 256) → (flatTo h k).length = 256 * k := by
  intro k
  induction k with
  | zero => intro _; rfl
  | succ k ih =>
    intro hh
    show List.length (_ ++ _) = _
    rw [List.length_append, ih fun i hi => hh i (by omega), hh k (by omega)]
    omega
/-- the first k lists are laid -/
def CRow (w : World) (h : List (List Int)) (k : Nat) (v : Value) (wr : World) : Prop :=
  wr.ownsRow w.heap.size 3 1 v (256 * k) (ints .i64 (flatTo h k)) ∧ Below w.heap.size w wr

set_option maxRecDepth 100000 in
set_option maxHeartbeats 2000000 in
theorem concat_any (A : Option Addr) (c : Nat) (es : List Ent) (w : World) (h : HasL w w.heap.size A es) (hK : 1 ≤ es.length) (hK2 : es.length ≤ 8) (hl : ∀ i (h : i < es.length), es[i].l.length = 256) :
    Calls Tryd.prog 67 #[.slice A es.length c] w (Res .i64 3 w (flatTo (nums es) es.length)) := by
  obtain ⟨i0, hi0, hz0, hz1, hz2⟩ := info_parts Tryd.info3
  have H := Lib.hid h
  have HL := Lib.hid hl
  clear h hl
  go_enter Tryd.func67, Tryd.ntmps67
  go_wp2
  go_loopw [3, 5, 11] (fun s _ i wr => ∃ k : Nat, k ≤ es.length ∧ i = .int .i64 k ∧ s = .int .i64 (256 * k : Nat) ∧ w = wr) (fun _ _ i _ => es.length - (intOf i).toNat)
  case atStart => exact ⟨0, by omega, rfl, rfl, rfl⟩
  case round =>
    obtain ⟨k, hk, rfl, rfl, rfl⟩ := hrel
    by_cases hlt : k < es.length
    · obtain ⟨⟨a, e, _, ha⟩, _⟩ := H.out k hlt
      subst e
      have hll := HL.out k hlt
      have l0 : es[k].l.length ≤ 256 := by omega
      have l1 : 256 ≤ es[k].l.length := by omega
      clear hll
      generalize es[k].l.length = ln at ha l0 l1
      go_wp2
      go_roundw
      case rel => exact ⟨k + 1, by omega, by go_num, by go_num, trivial⟩
      case measure => simp [intOf]; omega
    · have e : k = es.length := by omega
      subst e
      go_wp2_with (go_at_call 78; refine (grow_nil (256 * es.length) w (by omega) (by omega)).mono ?_; rintro e w1 ⟨v, rfl, ho, hb⟩; have HO := Lib.hid ho; have HB := Lib.hid hb; clear ho hb)
      have HS : Hid (CRow w (nums es) 0 v w1) := ⟨HO.out, HB.out⟩
      clear HO HB
      go_loopw [6, 8, 27] (fun v _ i wr => ∃ k : Nat, k ≤ es.length ∧ i = .int .i64 k ∧ CRow w (nums es) k v wr) (fun _ _ i _ => es.length - (intOf i).toNat)
      case atStart => exact ⟨0, by omega, rfl, HS.out⟩
      case round =>
        obtain ⟨k, hk, rfl, hrow⟩ := hrel
        have HR := Lib.hid hrow
        clear hrow HS
        by_cases hlt : k < es.length
        · obtain ⟨⟨a, e, _, ha⟩, hf⟩ := (H.out.below HR.out.2) k hlt
          subst e
          have hll := HL.out k hlt
          have HNK := Lib.hid (nums_at es hlt)
          have l0 : es[k].l.length ≤ 256 := by omega
          have l1 : 256 ≤ es[k].l.length := by omega
          have HLL := Lib.hid hll
          have HF := Lib.hid hf
          clear hll hf
          generalize es[k].c = ce at ha
          generalize es[k].A = Ae at ha HF
          generalize es[k].l = le at ha HF l0 l1 HLL HNK
          go_wp2_with (at_builtin; refine append_any wr rfl _ _ 22 rfl w.heap.size 3 i0 (.int .i64 0) 1 8 Tryd.underlying22 hi0 hz0 hz1 hz2 rfl (by decide) _ (256 * k) _ rfl HR.out.1 Ae le.length ce (ints .i64 le) rfl (by rw [ints_length, Nat.mul_one]) (fun e => by obtain ⟨a', e', _⟩ := HF.out 0 (by omega); rw [e] at e'; cases e') HF.out.cells (ints_one _ _) (by unfold maxLen; omega) (by omega) HR.out.2.size ?_; intro v7 w7 hown hgr; have hb7 : Below w.heap.size w w7 := HR.out.2.grown hgr HR.out.2.size (fun q hq => (HR.out.1.lt q hq).1); have HO7 := Lib.hid hown; have HB7 := Lib.hid hb7; clear hown hgr hb7)
          have HNX : Hid (CRow w (nums es) (k + 1) v7 w7) := by
            refine ⟨?_, HB7.out⟩
            show w7.ownsRow _ _ _ _ _ (ints .i64 (flatTo (nums es) k ++ (nums es).getD k []))
            rw [HNK.out, ints_app]
            have := HO7.out
            rw [HLL.out] at this
            exact this
          clear HO7 HB7
          go_roundw
          case rel => exact ⟨k + 1, by omega, by go_num, HNX.out⟩
          case measure => simp [intOf]; omega
        · have e : k = es.length := by omega
          subst e
          go_wp2
          go_ret
          exact res_of HR.out.1 HR.out.2
end Go.Proofs.YtoigpehpgpogfaaDoor

/- Contract: the program's high parts as bytes. -/
namespace Go.Proofs.YtoigpehpgpogfaaDoor
open Go.RowKit Slices Go.Proofs.YtoigpehpgpogfaaDoor.Bit

theorem nat_app (l m : List Int) : nat (l ++ m) = nat l ++ nat m := by simp [nat]
theorem fit_app {D : Nat} {l m : List Int} (h : Fit D l) (g : Fit D m) : Fit D (l ++ m) := fun i hi => by
  rw [List.length_append] at hi
  rw [List.getD_eq_getElem?_getD]
  by_cases e : i < l.length
  · rw [List.getElem?_append_left e, ← List.getD_eq_getElem?_getD]; exact h i e
  · rw [List.getElem?_append_right (by omega), ← List.getD_eq_getElem?_getD]; exact g _ (by omega)
theorem high_fit {D M : Nat} {f : List Int} (hM : M ≤ 2 ^ D) (h : HighPoly M f) : Fit D f := fun i hi => by
  have := h.2 i (by have := h.1; omega)
  rw [pow_cast]
  omega
theorem flat_fit {D M : Nat} {h : List (List Int)} (hM : M ≤ 2 ^ D) : ∀ k, (∀ i, i < k → HighPoly M (h.getD i [])) → Fit D (flatTo h k) := by
  intro k
  induction k with
  | zero => intro _ i hi; exact absurd hi (Nat.not_lt_zero _)
  | succ k ih => intro hh; exact fit_app (ih fun i hi => hh i (by omega)) (high_fit hM (hh k (by omega)))
theorem flat_pack {D M : Nat} {h : List (List Int)} (hD : 1 ≤ D) (hD2 : D ≤ 24) (hM : M ≤ 2 ^ D) : ∀ k, (∀ i, i < k → HighPoly M (h.getD i [])) → packI D (flatTo h k) = highL D h k := by
  intro k
  induction k with
  | zero =>
    intro hh
    have e : flatTo h 0 = [] := rfl
    rw [e, packI_yes hD hD2 (fun i hi => absurd hi (Nat.not_lt_zero _))]
    show int (packN D (nat [])) = []
    simp [nat, packN, int]
  | succ k ih =>
    intro hh
    have i1 := ih fun i hi => hh i (by omega)
    have f1 := flat_fit hM k fun i hi => hh i (by omega)
    have f2 := high_fit hM (hh k (by omega))
    show packI D (flatTo h k ++ h.getD k []) = highL D h k ++ packI D (h.getD k [])
    rw [← i1, packI_yes hD hD2 (fit_app f1 f2), packI_yes hD hD2 f1, packI_yes hD hD2 f2, nat_app, pack_app (by omega) _ (q := D * (32 * k)) (by rw [nat_len, flatTo_len k fun i hi => (hh i (by omega)).1]; rw [Nat.mul_left_comm 8 D (32 * k)]; congr 1; omega), int_app]

set_option maxRecDepth 100000 in
set_option maxHeartbeats 4000000 in
theorem laidHigh_6 (s : Int) (A : Option Addr) (c : Nat) (es : List Ent) (w : World) (hs : setB s = true) (h : HasL w w.heap.size A es) (hn : es.length ≤ 4000)
    (K : Nat) (K0 : 1 ≤ K) (K1 : K ≤ 8) (x1 x2 x3 x4 x5 x6 x8 : Int) (hx : setV s = #[.int .i64 K, .int .i64 x1, .int .i64 x2, .int .i64 x3, .int .i64 x4, .int .i64 x5, .int .i64 x6, .int .i64 95232, .int .i64 x8]) (E : Int) (B : List Int)
    (hEB : (HighShape K 44 (nums es) → E = 0 ∧ B = highL 6 (nums es) K) ∧ (¬ HighShape K 44 (nums es) → E = 3 ∧ B = [])) :
    Calls Tryd.prog 53 #[.int .i64 s, .slice A es.length c] w (ResF w B E) := by
  have HX := Lib.hid hx
  have HS := Lib.hid hs
  have H := Lib.hid h
  have HEB := Lib.hid hEB
  clear hx h hs hEB
  go_enter Tryd.func53, Tryd.ntmps53
  go_wp2_with (go_at_call 63; refine (haveSet_yes s _ HS.out).mono ?_; rw [HX.out]; rintro e w1 ⟨rfl, hb⟩; have HB := Lib.hid hb; clear hb)
  have hb2 : Below w.heap.size w (w1.alloc (.cells #[.int .i64 K, .int .i64 x1, .int .i64 x2, .int .i64 x3, .int .i64 x4, .int .i64 x5, .int .i64 x6, .int .i64 95232, .int .i64 x8] 30)) := HB.out.alloc HB.out.size _
  have hn2 := Nine.new w1 30 #[.int .i64 K, .int .i64 x1, .int .i64 x2, .int .i64 x3, .int .i64 x4, .int .i64 x5, .int .i64 x6, .int .i64 95232, .int .i64 x8]
  generalize w1.heap.size = gs at hn2
  generalize World.alloc _ _ = w2 at hb2 hn2 ⊢
  have H2 := Lib.hid (H.out.next hb2)
  have HB2 := Lib.hid hb2
  have c0 : w2.cell? ⟨gs, 0, none⟩ = some (.int .i64 K) := hn2.cell 0
  have c7 : w2.cell? ⟨gs, 7, none⟩ = some (.int .i64 95232) := hn2.cell 7
  clear HB hb2 hn2
  go_wp2_with fail
  refine (haveLists_any _ A c K 44 es w2 H2.out hn (by omega)).mono ?_
  rintro e w3 ⟨v, rfl, hv, hb3⟩
  have H3 := Lib.hid (H2.out.next hb3)
  have HB3 := Lib.hid (below_next HB2.out hb3)
  clear hb3 H2 HB2 c0 c7
  rcases hv with ⟨hok, hv⟩ | ⟨hno, hv⟩
  · have e := isF_zero hv
    subst e
    have HSH : Hid (HighShape K 44 (nums es)) := hok
    clear hok hv
    have hlen : es.length = K := by have := HSH.out.1; rwa [nums_len] at this
    have HLN := Lib.hid hlen
    have k1 : 1 ≤ es.length := by omega
    have k2 : es.length ≤ 8 := by omega
    clear hlen
    have HL : Hid (∀ i (h : i < es.length), es[i].l.length = 256) := fun i hi => by
      have := (HSH.out.2 i (by have := HLN.out; omega)).1
      rwa [nums_at es hi] at this
    have HPK : Hid (packI (6 : Int) (flatTo (nums es) es.length) = highL 6 (nums es) K) := by
      show packI (6 : Int) _ = _
      rw [HLN.out]
      exact flat_pack (D := 6) (M := 44) (by omega) (by omega) (by decide) K HSH.out.2
    have HFL : Hid ((flatTo (nums es) es.length).length ≤ 4000) := by
      show _ ≤ _
      rw [flatTo_len _ fun i hi => (HSH.out.2 i (by have := HLN.out; omega)).1]
      omega
    go_wp2_with (first
      | (go_at_call 41; refine (widthOf_lit 43 6 43 _ (by omega) (by omega) (by decide)).mono ?_; rintro e w' ⟨rfl, rfl⟩)
      | (go_at_call 67; refine (concat_any A c es _ H3.out k1 k2 HL.out).mono ?_; rintro e w4 ⟨A4, c4, rfl, ho, hb⟩; have HO4 := Lib.hid ho; have HB4 := Lib.hid (below_next HB3.out hb); clear ho hb)
      | (go_at_call 36; refine (pack_any 6 A4 c4 _ (flatTo (nums es) es.length) _ rfl (own_read HO4.out) HFL.out).mono ?_; rw [HPK.out]; rintro e w5 ⟨A5, c5, rfl, ho5, hb5⟩; have HO5 := Lib.hid (own_down ho5 HB4.out.size); have HB5 := Lib.hid (below_next HB4.out hb5); clear ho5 hb5))
    go_ret2
    obtain ⟨rfl, rfl⟩ := HEB.out.1 HSH.out
    exact ⟨A5, c5, .nilIface, rfl, HO5.out, isF_nil _, HB5.out⟩
  · obtain ⟨p, rfl⟩ := isF_some hv (by decide)
    have HV := Lib.hid hv
    have HBAD : Hid (¬ HighShape K 44 (nums es)) := hno
    clear hno hv
    go_wp2
    go_ret2
    obtain ⟨rfl, rfl⟩ := HEB.out.2 HBAD.out
    exact resF_nil rfl HV.out HB3.out

set_option maxRecDepth 100000 in
set_option maxHeartbeats 4000000 in
theorem laidHigh_4 (s : Int) (A : Option Addr) (c : Nat) (es : List Ent) (w : World) (hs : setB s = true) (h : HasL w w.heap.size A es) (hn : es.length ≤ 4000)
    (K : Nat) (K0 : 1 ≤ K) (K1 : K ≤ 8) (x1 x2 x3 x4 x5 x6 x8 : Int) (hx : setV s = #[.int .i64 K, .int .i64 x1, .int .i64 x2, .int .i64 x3, .int .i64 x4, .int .i64 x5, .int .i64 x6, .int .i64 261888, .int .i64 x8]) (E : Int) (B : List Int)
    (hEB : (HighShape K 16 (nums es) → E = 0 ∧ B = highL 4 (nums es) K) ∧ (¬ HighShape K 16 (nums es) → E = 3 ∧ B = [])) :
    Calls Tryd.prog 53 #[.int .i64 s, .slice A es.length c] w (ResF w B E) := by
  have HX := Lib.hid hx
  have HS := Lib.hid hs
  have H := Lib.hid h
  have HEB := Lib.hid hEB
  clear hx h hs hEB
  go_enter Tryd.func53, Tryd.ntmps53
  go_wp2_with (go_at_call 63; refine (haveSet_yes s _ HS.out).mono ?_; rw [HX.out]; rintro e w1 ⟨rfl, hb⟩; have HB := Lib.hid hb; clear hb)
  have hb2 : Below w.heap.size w (w1.alloc (.cells #[.int .i64 K, .int .i64 x1, .int .i64 x2, .int .i64 x3, .int .i64 x4, .int .i64 x5, .int .i64 x6, .int .i64 261888, .int .i64 x8] 30)) := HB.out.alloc HB.out.size _
  have hn2 := Nine.new w1 30 #[.int .i64 K, .int .i64 x1, .int .i64 x2, .int .i64 x3, .int .i64 x4, .int .i64 x5, .int .i64 x6, .int .i64 261888, .int .i64 x8]
  generalize w1.heap.size = gs at hn2
  generalize World.alloc _ _ = w2 at hb2 hn2 ⊢
  have H2 := Lib.hid (H.out.next hb2)
  have HB2 := Lib.hid hb2
  have c0 : w2.cell? ⟨gs, 0, none⟩ = some (.int .i64 K) := hn2.cell 0
  have c7 : w2.cell? ⟨gs, 7, none⟩ = some (.int .i64 261888) := hn2.cell 7
  clear HB hb2 hn2
  go_wp2_with fail
  refine (haveLists_any _ A c K 16 es w2 H2.out hn (by omega)).mono ?_
  rintro e w3 ⟨v, rfl, hv, hb3⟩
  have H3 := Lib.hid (H2.out.next hb3)
  have HB3 := Lib.hid (below_next HB2.out hb3)
  clear hb3 H2 HB2 c0 c7
  rcases hv with ⟨hok, hv⟩ | ⟨hno, hv⟩
  · have e := isF_zero hv
    subst e
    have HSH : Hid (HighShape K 16 (nums es)) := hok
    clear hok hv
    have hlen : es.length = K := by have := HSH.out.1; rwa [nums_len] at this
    have HLN := Lib.hid hlen
    have k1 : 1 ≤ es.length := by omega
    have k2 : es.length ≤ 8 := by omega
    clear hlen
    have HL : Hid (∀ i (h : i < es.length), es[i].l.length = 256) := fun i hi => by
      have := (HSH.out.2 i (by have := HLN.out; omega)).1
      rwa [nums_at es hi] at this
    have HPK : Hid (packI (4 : Int) (flatTo (nums es) es.length) = highL 4 (nums es) K) := by
      show packI (4 : Int) _ = _
      rw [HLN.out]
      exact flat_pack (D := 4) (M := 16) (by omega) (by omega) (by decide) K HSH.out.2
    have HFL : Hid ((flatTo (nums es) es.length).length ≤ 4000) := by
      show _ ≤ _
      rw [flatTo_len _ fun i hi => (HSH.out.2 i (by have := HLN.out; omega)).1]
      omega
    go_wp2_with (first
      | (go_at_call 41; refine (widthOf_lit 15 4 15 _ (by omega) (by omega) (by decide)).mono ?_; rintro e w' ⟨rfl, rfl⟩)
      | (go_at_call 67; refine (concat_any A c es _ H3.out k1 k2 HL.out).mono ?_; rintro e w4 ⟨A4, c4, rfl, ho, hb⟩; have HO4 := Lib.hid ho; have HB4 := Lib.hid (below_next HB3.out hb); clear ho hb)
      | (go_at_call 36; refine (pack_any 4 A4 c4 _ (flatTo (nums es) es.length) _ rfl (own_read HO4.out) HFL.out).mono ?_; rw [HPK.out]; rintro e w5 ⟨A5, c5, rfl, ho5, hb5⟩; have HO5 := Lib.hid (own_down ho5 HB4.out.size); have HB5 := Lib.hid (below_next HB4.out hb5); clear ho5 hb5))
    go_ret2
    obtain ⟨rfl, rfl⟩ := HEB.out.1 HSH.out
    exact ⟨A5, c5, .nilIface, rfl, HO5.out, isF_nil _, HB5.out⟩
  · obtain ⟨p, rfl⟩ := isF_some hv (by decide)
    have HV := Lib.hid hv
    have HBAD : Hid (¬ HighShape K 16 (nums es)) := hno
    clear hno hv
    go_wp2
    go_ret2
    obtain ⟨rfl, rfl⟩ := HEB.out.2 HBAD.out
    exact resF_nil rfl HV.out HB3.out

set_option maxRecDepth 100000 in
set_option maxHeartbeats 2000000 in
theorem laidHigh_no (s : Int) (A : Option Addr) (c n : Nat) (w : World) (hs : ¬ setB s = true) :
    Calls Tryd.prog 53 #[.int .i64 s, .slice A n c] w (ResF w [] 2) := by
  have hs' : setB s = false := by simpa using hs
  have HX := Lib.hid (set_none hs')
  have HS := Lib.hid hs'
  clear hs hs'
  go_enter Tryd.func53, Tryd.ntmps53
  go_wp2_with (go_at_call 63; refine (haveSet_no s _ HS.out).mono ?_; rw [HX.out]; rintro e w1 ⟨v, rfl, hv, hb⟩; obtain ⟨p, rfl⟩ := isF_some hv (by decide); have HB := Lib.hid hb; have HV := Lib.hid hv; clear hb hv)
  go_ret2
  exact resF_nil rfl (HV.out.next ((Below.refl _ _).alloc (Nat.le_refl _) _)) (HB.out.alloc HB.out.size _)
theorem laidHigh_any (s : Int) (A : Option Addr) (c : Nat) (es : List Ent) (w : World) (h : HasL w w.heap.size A es) (hn : es.length ≤ 4000) :
    Calls Tryd.prog 53 #[.int .i64 s, .slice A es.length c] w (ResF w (uB s (nums es)) (uE s (nums es))) := by
  by_cases hs : setB s = true
  · obtain ⟨x1, x2, x3, x4, x5, x6, x8, hx⟩ := set_kg hs
    obtain ⟨K0, K1, _, _⟩ := kw_bd s
    have hEB : (HighShape (kOf s) (mOf s) (nums es) → uE s (nums es) = 0 ∧ uB s (nums es) = highL (dOf s) (nums es) (kOf s)) ∧ (¬ HighShape (kOf s) (mOf s) (nums es) → uE s (nums es) = 3 ∧ uB s (nums es) = []) := by
      unfold uE uB
      rw [if_pos hs]
      exact ⟨fun g => ⟨if_pos g, if_pos ⟨hs, g⟩⟩, fun g => ⟨if_neg g, if_neg fun q => g q.2⟩⟩
    rcases set_cases s with rfl | rfl | rfl | ⟨h1, h2, h3⟩
    · exact laidHigh_6 1 A c es w hs h hn _ K0 K1 x1 x2 x3 x4 x5 x6 x8 hx _ _ hEB
    · exact laidHigh_4 2 A c es w hs h hn _ K0 K1 x1 x2 x3 x4 x5 x6 x8 hx _ _ hEB
    · exact laidHigh_4 3 A c es w hs h hn _ K0 K1 x1 x2 x3 x4 x5 x6 x8 hx _ _ hEB
    · unfold setB at hs; simp [h1, h2, h3] at hs
  · have e1 : uE s (nums es) = 2 := if_neg hs
    have e2 : uB s (nums es) = [] := if_neg fun q => hs q.1
    rw [e1, e2]
    exact laidHigh_no s A c es.length w hs

set_option maxHeartbeats 1000000 in
theorem pHigh_any (s : Int) (A : Option Addr) (c : Nat) (es : List Ent) (w : World) (h : HasL w w.heap.size A es) (hn : es.length ≤ 4000) :
    Calls Tryd.prog 31 #[.int .i64 s, .slice A es.length c] w (ResP w (uB s (nums es)) (uE s (nums es))) := by
  have H := Lib.hid h
  clear h
  go_enter Tryd.func31, Tryd.ntmps31
  go_wp2_with (first
    | (go_at_call 53; refine (laidHigh_any s A c es _ H.out hn).mono ?_; rintro e w1 ⟨A1, c1, v, rfl, ho, hv, hb⟩; have HO := Lib.hid ho; have HV := Lib.hid hv; have HB := Lib.hid hb; clear ho hv hb)
    | (go_at_call 51; refine (wrap_any _ _ v _ HV.out).mono ?_; rintro e w2 ⟨v2, rfl, hv2, hb2⟩; have HV2 := Lib.hid hv2; have HB2 := Lib.hid hb2; clear hv2 hb2))
  go_ret2
  exact ⟨A1, c1, v2, rfl, own_next HO.out HB2.out, HV2.out, below_next HB.out HB2.out⟩
end Go.Proofs.YtoigpehpgpogfaaDoor

