/- Several texts in one: Pk, Pl. -/
import Derived.Test.YtidpihpddkfhgaaDoorPj
import Derived.Test.YtidpihpddkfhgaaDoorPy
/- Words: what is read to its end within the bounds is a request that may be. -/
namespace Go.Proofs.YtidpihpddkfhgaaDoor
open Go.RowKit Slices Go.Proofs.YtidpihpddkfhgaaDoor.Bit

theorem rNs_none : ∀ bs : List (Int × Int), (rNs bs none).2 = none := by
  intro bs
  induction bs with
  | nil => rfl
  | cons c t ih => show (rNs t (rN none c.1 c.2).2).2 = none; exact ih
theorem rNs_in : ∀ (bs : List (Int × Int)) {s : Option (List Int)} {l' : List Int}, (∀ l, s = some l → Fit 8 l) → (rNs bs s).2 = some l' → ∀ i, i < bs.length → (bs.getD i (0, 0)).1 ≤ (rNs bs s).1.getD i 0 ∧ (rNs bs s).1.getD i 0 ≤ (bs.getD i (0, 0)).2 := by
  intro bs
  induction bs with
  | nil => intro s l' _ _ i hi; cases hi
  | cons b r ih =>
    intro s l' hf h i hi
    have h2 : (rNs r (rN s b.1 b.2).2).2 = some l' := h
    obtain ⟨x, s1, e⟩ : ∃ x s1, rN s b.1 b.2 = (x, s1) := ⟨_, _, rfl⟩
    have e1 : (rNs (b :: r) s).1 = x :: (rNs r s1).1 := by show (rN s b.1 b.2).1 :: (rNs r (rN s b.1 b.2).2).1 = _; rw [e]
    rw [e] at h2
    rw [e1]
    cases s1 with
    | none =>
      have h3 : (rNs r none).2 = some l' := h2
      rw [rNs_none r] at h3
      cases h3
    | some l1 =>
      obtain ⟨_, _, q3, q4, q5⟩ := rN_some hf e
      cases i with
      | zero => exact ⟨q3, q4⟩
      | succ i =>
        have := ih (s := some l1) (l' := l') (fun l hl => by injection hl with hl; subst hl; exact q5) h2 i (by simpa using hi)
        simpa using this
theorem rB_none (m : Int) : rB none m = ([], none) := rfl
theorem take_may {b : List Int} (hf : Fit 8 b) (h : (takeA bndA 300 2000 100 (some b)).2 = some []) : MayA (takeA bndA 300 2000 100 (some b)).1 := by
  have h2 : (rB (rB (rB (rNs bndA (some b)).2 300).2 2000).2 100).2 = some [] := h
  have hl0 := rNs_len bndA (some b)
  have hin := fun l' hq => rNs_in bndA (s := some b) (l' := l') (fun l hl => by injection hl with hl; subst hl; exact hf) hq
  have hso := fun l' hq => rNs_some bndA (s := some b) (l' := l') (fun l hl => by injection hl with hl; subst hl; exact hf) hq
  obtain ⟨ns, s1, e1⟩ : ∃ ns s1, rNs bndA (some b) = (ns, s1) := ⟨_, _, rfl⟩
  obtain ⟨p0, s2, e2⟩ : ∃ p s2, rB s1 300 = (p, s2) := ⟨_, _, rfl⟩
  obtain ⟨p1, s3, e3⟩ : ∃ p s3, rB s2 2000 = (p, s3) := ⟨_, _, rfl⟩
  obtain ⟨p2, s4, e4⟩ : ∃ p s4, rB s3 100 = (p, s4) := ⟨_, _, rfl⟩
  rw [e1] at h2 hl0 hin hso
  simp only at h2 hl0 hin hso
  rw [e2] at h2
  simp only at h2
  rw [e3] at h2
  simp only at h2
  rw [e4] at h2
  simp only at h2
  subst h2
  have ea : (takeA bndA 300 2000 100 (some b)).1 = ofNs ns (strOfNums p0) p1 p2 := by
    unfold takeA
    rw [e1]
    simp only
    rw [e2]
    simp only
    rw [e3]
    simp only
    rw [e4]
  rw [ea]
  cases s3 with
  | none => rw [rB_none] at e4; cases e4
  | some l3 =>
    cases s2 with
    | none => rw [rB_none] at e3; cases e3
    | some l2 =>
      cases s1 with
      | none => rw [rB_none] at e2; cases e2
      | some l1 =>
        have hb := hin l1 rfl
        obtain ⟨_, f1, _⟩ := hso l1 rfl
        obtain ⟨_, m0, g0, f2⟩ := rB_some (s := some l1) (fun l hl => by injection hl with hl; subst hl; exact f1) e2
        obtain ⟨_, m1, g1, f3⟩ := rB_some (s := some l2) (fun l hl => by injection hl with hl; subst hl; exact f2) e3
        obtain ⟨_, m2, g2, _⟩ := rB_some (s := some l3) (fun l hl => by injection hl with hl; subst hl; exact f3) e4
        have t1 : (strOfNums p0).size = p0.length := by rw [← strNums_len, strNums_of g0]
        refine (may_iff _).2 ⟨?_, ?_, ?_, ?_⟩
        · rw [numsA_of hl0]
          intro j hj
          exact hb j hj
        · show (strOfNums p0).size ≤ 300
          omega
        · show p1.length ≤ 2000
          omega
        · show p2.length ≤ 100
          omega
theorem may_takes2 {b : AskV} (h : MayA b) : takeA bndA 300 2000 100 (some (laidA b)) = (b, some []) := by
  have hs := may_small h
  have hn := may_nums h
  obtain ⟨hi, k0, k1, k2⟩ := (may_iff b).1 h
  exact takeA_laid rfl (fun i hi' => hi i hi') hn hs.1 hs.2.1 hs.2.2 (by omega) (by omega) (by omega)
/-- what is ahead of the signature is the body of what is read of it, or of none -/
theorem read_yes {l : List Int} (hf : Fit 8 (bodyOf l)) (h : (takeA bndA 300 2000 100 (some (bodyOf l))).2 = some []) : IsAsk l (takeA bndA 300 2000 100 (some (bodyOf l))).1 :=
  ⟨take_may hf h, takeA_some rfl hf h⟩
theorem read_no {l : List Int} (h : (takeA bndA 300 2000 100 (some (bodyOf l))).2 ≠ some []) : ∀ b, ¬ IsAsk l b := by
  rintro b ⟨m, hb⟩
  rw [hb, may_takes2 m] at h
  exact h rfl
end Go.Proofs.YtidpihpddkfhgaaDoor

/- Contract: the landed code's read, of too few bytes or too many. -/
namespace Go.Proofs.YtidpihpddkfhgaaDoor
open Go.RowKit Slices Go.Proofs.YtidpihpddkfhgaaDoor.Bit

/-- an error whose number is c, wrapped once or not at all -/
def IsFW (c : Int) (v : Value) (w : World) : Prop := IsF c v w ∨ IsW c v w
/-- what read answers: the request's bytes, its body and the signature are the call's own, and share nothing -/
def ReadQ (l : List Int) (w : World) (e : Ending) (w' : World) : Prop :=
  ∃ a x y k A1 c1 A2 c2 X cx Y cy v, ReadIs l a x y k ∧ e = .returned (.tuple #[.agg (askVals a A1 c1 A2 c2), .slice X x.length cx, .slice Y y.length cy, v]) ∧ IsFW k v w' ∧
    w'.ownsRow w.heap.size 5 1 (.slice A1 a.bytes.length c1) a.bytes.length (ints .u8 a.bytes) ∧ w'.ownsRow w.heap.size 5 1 (.slice A2 a.token.length c2) a.token.length (ints .u8 a.token) ∧
    w'.ownsRow w.heap.size 5 1 (.slice X x.length cx) x.length (ints .u8 x) ∧ w'.ownsRow w.heap.size 5 1 (.slice Y y.length cy) y.length (ints .u8 y) ∧
    Dis (.slice Y y.length cy) (.slice X x.length cx) ∧ Dis (.slice A1 a.bytes.length c1) (.slice X x.length cx) ∧ Dis (.slice A1 a.bytes.length c1) (.slice Y y.length cy) ∧ Below w.heap.size w w'
theorem dis_nil (v : Value) : Dis v (.slice none 0 0) := .inr (.inl rfl)
/-- nothing beside an error -/
theorem readQ_none {l : List Int} {k : Int} {w w' : World} {v : Value} (h : ReadIs l zeroA [] [] k) (hv : IsFW k v w') (hb : Below w.heap.size w w') :
    ReadQ l w (.returned (.tuple #[.agg zeroV, .slice none 0 0, .slice none 0 0, v])) w' :=
  ⟨zeroA, [], [], k, none, 0, none, 0, none, 0, none, 0, v, h, rfl, hv, World.ownsRow_nil _ _ _ _, World.ownsRow_nil _ _ _ _, World.ownsRow_nil _ _ _ _, World.ownsRow_nil _ _ _ _, dis_nil _, dis_nil _, dis_nil _, hb⟩

set_option maxRecDepth 100000 in
set_option maxHeartbeats 2000000 in
theorem read_short (A0 : Option Addr) (n c : Nat) (l : List Int) (w : World) (hn : n = l.length) (hs : n < 2420 ∨ 6000 < n) :
    Calls Tryd.prog 36 #[.slice A0 n c] w (ReadQ l w) := by
  have HI : Hid ((Tryd.prog.info? 24).map (·.size) = some 14) := by show _ = _; kernel_rfl
  have HRI : Hid (ReadIs l zeroA [] [] 3) := .inl ⟨by omega, rfl, rfl, rfl, rfl⟩
  have HOZ : Hid (zeroV.all (·.oneCell') = true) := vals_one zeroA none 0 none 0
  have hs2 : (n < 2420) ∨ (2420 ≤ n ∧ 6000 < n) := by omega
  clear hn hs
  rcases hs2 with h1 | ⟨h1, h2⟩
  · have d1 : decide (2420 ≤ (n : Int)) = false := by rw [decide_eq_false_iff_not]; omega
    clear h1
    go_enter Tryd.func36, Tryd.ntmps36
    go_wp2_with fail
    refine (pSizes_1 _).mono ?_
    rintro e w1 ⟨rfl, hb⟩
    have R0 := Lib.hid (row_below (heap_alloc_new w (.cells zeroV 24)) hb)
    have B1 := Lib.hid (below_next (below_new w _) hb)
    clear hb
    go_wp2_with fail
    refine (unless_no 3 _ _).mono ?_
    rintro e w2 ⟨rfl, rfl⟩
    have R2 := Lib.hid (row_below R0.out (below_new w1 (.cells #[.int .i64 3, .string { data := #[114, 101, 113, 117, 101, 115, 116] }] 54)))
    have B2 := Lib.hid (below_next B1.out (below_new w1 (.cells #[.int .i64 3, .string { data := #[114, 101, 113, 117, 101, 115, 116] }] 54)))
    have HE := Lib.hid (isF_new (c := 3) (w := w1) (x := .string { data := #[114, 101, 113, 117, 101, 115, 116] }) (by decide))
    generalize w1.alloc (.cells #[.int .i64 3, .string { data := #[114, 101, 113, 117, 101, 115, 116] }] 54) = w2 at R2 B2 HE ⊢
    generalize (Value.iface 49 (.pointer (some ⟨w1.heap.size, 0, none⟩))) = ve at HE ⊢
    have HNE : Hid (∃ q, ve = .iface 49 (.pointer (some q))) := by
      rcases HE.out with h | ⟨_, q, hv, _⟩
      · exact absurd h.1 (by decide)
      · exact ⟨q, hv⟩
    obtain ⟨q, rfl⟩ := HNE.out
    clear R0 B1 HNE
    go_wp2_with (refine wpList_store_row rfl 24 _ _ rfl w.heap.size zeroV rfl rfl 24 _ R2.out HI.out rfl HOZ.out ?_)
    have hrow := setRow_heap w2 w.heap.size zeroV zeroV 24 (0, 0) R2.out
    refine bodyPost_ret (v := .tuple #[.agg zeroV, .slice none 0 0, .slice none 0 0, .iface 49 (.pointer (some q))]) ?_ rfl (readQ_none HRI.out (.inl (HE.out.put zeroV R2.out)) (below_setRow B2.out (Nat.le_refl _) zeroV))
    refine Eq.trans (results_cell4 (p := 2) (a := 3) (b := 4) (c := 5) (ty := 24) ?h _ _ w.heap.size 24 zeroV (0, 0) _ ?hp hrow Tryd.underlying24 rfl HI.out) rfl
    case h => rfl
    case hp => rfl
  · have d1 : decide (2420 ≤ (n : Int)) = true := by rw [decide_eq_true_iff]; omega
    have d2 : decide ((n : Int) ≤ 6000) = false := by rw [decide_eq_false_iff_not]; omega
    clear h1 h2
    go_enter Tryd.func36, Tryd.ntmps36
    go_wp2_with fail
    refine (pSizes_1 _).mono ?_
    rintro e w1 ⟨rfl, hb⟩
    have R0 := Lib.hid (row_below (heap_alloc_new w (.cells zeroV 24)) hb)
    have B1 := Lib.hid (below_next (below_new w _) hb)
    clear hb
    go_wp2_with fail
    refine (unless_no 3 _ _).mono ?_
    rintro e w2 ⟨rfl, rfl⟩
    have R2 := Lib.hid (row_below R0.out (below_new w1 (.cells #[.int .i64 3, .string { data := #[114, 101, 113, 117, 101, 115, 116] }] 54)))
    have B2 := Lib.hid (below_next B1.out (below_new w1 (.cells #[.int .i64 3, .string { data := #[114, 101, 113, 117, 101, 115, 116] }] 54)))
    have HE := Lib.hid (isF_new (c := 3) (w := w1) (x := .string { data := #[114, 101, 113, 117, 101, 115, 116] }) (by decide))
    generalize w1.alloc (.cells #[.int .i64 3, .string { data := #[114, 101, 113, 117, 101, 115, 116] }] 54) = w2 at R2 B2 HE ⊢
    generalize (Value.iface 49 (.pointer (some ⟨w1.heap.size, 0, none⟩))) = ve at HE ⊢
    have HNE : Hid (∃ q, ve = .iface 49 (.pointer (some q))) := by
      rcases HE.out with h | ⟨_, q, hv, _⟩
      · exact absurd h.1 (by decide)
      · exact ⟨q, hv⟩
    obtain ⟨q, rfl⟩ := HNE.out
    clear R0 B1 HNE
    go_wp2_with (refine wpList_store_row rfl 24 _ _ rfl w.heap.size zeroV rfl rfl 24 _ R2.out HI.out rfl HOZ.out ?_)
    have hrow := setRow_heap w2 w.heap.size zeroV zeroV 24 (0, 0) R2.out
    refine bodyPost_ret (v := .tuple #[.agg zeroV, .slice none 0 0, .slice none 0 0, .iface 49 (.pointer (some q))]) ?_ rfl (readQ_none HRI.out (.inl (HE.out.put zeroV R2.out)) (below_setRow B2.out (Nat.le_refl _) zeroV))
    refine Eq.trans (results_cell4 (p := 2) (a := 3) (b := 4) (c := 5) (ty := 24) ?h _ _ w.heap.size 24 zeroV (0, 0) _ ?hp hrow Tryd.underlying24 rfl HI.out) rfl
    case h => rfl
    case hp => rfl
end Go.Proofs.YtidpihpddkfhgaaDoor

