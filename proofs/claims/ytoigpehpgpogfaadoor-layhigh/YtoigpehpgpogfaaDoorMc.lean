/- Contracts: hints of any set, and high parts as bytes, by the document's own code. -/
import Derived.Test.YtoigpehpgpogfaaDoorMb
namespace Go.Proofs.YtoigpehpgpogfaaDoor
open Go.RowKit Slices Go.Proofs.YtoigpehpgpogfaaDoor.Bit

noncomputable def hE (s : Int) (h : List (List Int)) : Int := if setB s = true then hintsE (kOf s) (wOf s) h else 2
noncomputable def hB (s : Int) (h : List (List Int)) : List Int := if setB s = true then hintsB (kOf s) (wOf s) h else []
theorem set_no {s : Int} (h : ¬ setB s = true) : s ≠ 1 ∧ s ≠ 2 ∧ s ≠ 3 := by
  unfold setB at h
  refine ⟨fun e => ?_, fun e => ?_, fun e => ?_⟩ <;> (subst e; simp at h)
set_option maxRecDepth 100000 in
set_option maxHeartbeats 2000000 in
theorem refHints_any (s : Int) (A : Option Addr) (c : Nat) (es : List Ent) (w : World) (h : HasL w w.heap.size A es) (hn : es.length ≤ 4000) (hl : ∀ i (h : i < es.length), es[i].l.length ≤ 4000) :
    Calls Tryd.prog 28 #[.int .i64 s, .slice A es.length c] w (ResE w (hB s (nums es)) (hE s (nums es))) := by
  unfold hE hB
  by_cases hs : setB s = true
  · rw [if_pos hs, if_pos hs]; exact refHints_in s A c es w hs h hn hl
  · rw [if_neg hs, if_neg hs]
    obtain ⟨h1, h2, h3⟩ := set_no hs
    clear hs
    go_enter Tryd.func28, Tryd.ntmps28
    go_wp2_with (go_at_call 14; refine (refSet_0 s _ h1 h2 h3).mono ?_; rintro e w1 ⟨rfl, hb⟩; have HB := Lib.hid hb; clear hb)
    go_ret2
    exact resE_nil rfl (HB.out.alloc HB.out.size _)

def HighPoly (M : Nat) (f : List Int) : Prop := f.length = 256 ∧ ∀ j, j < 256 → 0 ≤ f.getD j 0 ∧ f.getD j 0 < M
def HighShape (K M : Nat) (h : List (List Int)) : Prop := h.length = K ∧ ∀ i, i < K → HighPoly M (h.getD i [])
noncomputable def highL (D : Nat) (h : List (List Int)) : Nat → List Int
  | 0 => []
  | i + 1 => highL D h i ++ packI D (h.getD i [])
def mOf (s : Int) : Nat := if s = 1 then 44 else 16
def dOf (s : Int) : Nat := if s = 1 then 6 else 4
def gOf (s : Int) : Nat := if s = 1 then 95232 else 261888
open Classical in
noncomputable def uE (s : Int) (h : List (List Int)) : Int := if setB s = true then (if HighShape (kOf s) (mOf s) h then 0 else 3) else 2
open Classical in
noncomputable def uB (s : Int) (h : List (List Int)) : List Int := if setB s = true ∧ HighShape (kOf s) (mOf s) h then highL (dOf s) h (kOf s) else []
theorem set_kg {s : Int} (h : setB s = true) : ∃ x1 x2 x3 x4 x5 x6 x8 : Int, setV s = #[.int .i64 (kOf s), .int .i64 x1, .int .i64 x2, .int .i64 x3, .int .i64 x4, .int .i64 x5, .int .i64 x6, .int .i64 (gOf s), .int .i64 x8] := by
  rcases set_cases s with rfl | rfl | rfl | ⟨h1, h2, h3⟩
  · exact ⟨_, _, _, _, _, _, _, rfl⟩
  · exact ⟨_, _, _, _, _, _, _, rfl⟩
  · exact ⟨_, _, _, _, _, _, _, rfl⟩
  · unfold setB at h; simp [h1, h2, h3] at h
theorem pack_low {D M : Nat} {f : List Int} (hD : 1 ≤ D) (hD2 : D ≤ 24) (hM : M ≤ 2 ^ D) (h : HighPoly M f) : packI D f = int (packN D (nat f)) ∧ (packI D f).length = 32 * D := by
  have hf : Fit D f := fun i hi => by
    have := h.2 i (by have := h.1; omega)
    rw [pow_cast]
    omega
  have e := packI_yes hD hD2 hf
  refine ⟨e, ?_⟩
  rw [e, int_len, packN_len, nat_len, h.1]
  omega
theorem highL_len {D M : Nat} {h : List (List Int)} (hD : 1 ≤ D) (hD2 : D ≤ 24) (hM : M ≤ 2 ^ D) : ∀ k, (∀ i, i < k → HighPoly M (h.getD i [])) → (highL D h k).length = 32 * D * k := by
  intro k
  induction k with
  | zero => intro _; rfl
  | succ k ih =>
    intro hh
    show List.length (_ ++ _) = _
    rw [List.length_append, ih fun i hi => hh i (by omega), (pack_low hD hD2 hM (hh k (by omega))).2, Nat.mul_succ]

/-- the bytes of the first k polys are laid -/
def VRow (w : World) (D : Nat) (h : List (List Int)) (k : Nat) (v : Value) (wr : World) : Prop :=
  wr.ownsRow w.heap.size 5 1 v (highL D h k).length (ints .u8 (highL D h k)) ∧ Below w.heap.size w wr

set_option maxRecDepth 100000 in
set_option maxHeartbeats 8000000 in
theorem refHigh_6 (s : Int) (A : Option Addr) (c : Nat) (es : List Ent) (w : World) (hs : setB s = true) (h : HasL w w.heap.size A es) (_hn : es.length ≤ 4000) (hl : ∀ i (h : i < es.length), es[i].l.length ≤ 4000)
    (K : Nat) (K1 : K ≤ 8) (x1 x2 x3 x4 x5 x6 x8 : Int) (hx : setV s = #[.int .i64 K, .int .i64 x1, .int .i64 x2, .int .i64 x3, .int .i64 x4, .int .i64 x5, .int .i64 x6, .int .i64 95232, .int .i64 x8]) (E : Int) (B : List Int)
    (hEB : (HighShape K 44 (nums es) → E = 0 ∧ B = highL 6 (nums es) K) ∧ (¬ HighShape K 44 (nums es) → E = 3 ∧ B = [])) :
    Calls Tryd.prog 32 #[.int .i64 s, .slice A es.length c] w (ResE w B E) := by
  have HX := Lib.hid hx
  have HS := Lib.hid hs
  have H := Lib.hid h
  have HLL := Lib.hid hl
  have HEB := Lib.hid hEB
  clear hx h hs hl hEB
  obtain ⟨i0, hi0, hz0, hz1, hz2⟩ := info_parts Tryd.info5
  by_cases hk : es.length = K
  · have t1 : ((es.length : Int) != (K : Int)) = false := by rw [bne_eq_false_iff_eq]; omega
    have k1 : es.length ≤ K := by omega
    have k2 : K ≤ es.length := by omega
    clear hk
    go_enter Tryd.func32, Tryd.ntmps32
    go_wp2_with (go_at_call 14; refine (refSet_any s _).mono ?_; rw [HX.out, HS.out]; rintro e w1 ⟨rfl, hb⟩; have HB := Lib.hid hb; clear hb)
    have hb2 : Below w.heap.size w (w1.alloc (.cells #[.int .i64 K, .int .i64 x1, .int .i64 x2, .int .i64 x3, .int .i64 x4, .int .i64 x5, .int .i64 x6, .int .i64 95232, .int .i64 x8] 33)) := HB.out.alloc HB.out.size _
    have hn2 := Nine.new w1 33 #[.int .i64 K, .int .i64 x1, .int .i64 x2, .int .i64 x3, .int .i64 x4, .int .i64 x5, .int .i64 x6, .int .i64 95232, .int .i64 x8]
    generalize w1.heap.size = gs at hn2
    generalize World.alloc _ _ = w2 at hb2 hn2 ⊢
    have H2 := Lib.hid (H.out.next hb2)
    have HB2 := Lib.hid hb2
    have HN2 := Lib.hid hn2
    clear HB hb2 hn2
    have HS0 : Hid (VRow w2 6 (nums es) 0 (.slice none 0 0) w2) := ⟨World.ownsRow_nil _ _ _ _, Below.refl _ _⟩
    go_loopw [9, 10] (fun v i wr => ∃ k : Nat, k ≤ K ∧ i = .int .i64 k ∧ (∀ j, j < k → HighPoly 44 ((nums es).getD j [])) ∧ VRow w2 6 (nums es) k v wr) (fun _ i _ => K - (intOf i).toNat)
    case atStart => exact ⟨0, by omega, rfl, fun j hj => by omega, HS0.out⟩
    case round =>
      obtain ⟨k, hkK, rfl, hall, hrow⟩ := hrel
      have HR := Lib.hid hrow
      have HALL := Lib.hid hall
      have c0 : wr.cell? ⟨gs, 0, none⟩ = some (.int .i64 K) := (HN2.out.next hrow.2).cell 0
      clear hrow HS0 hall
      by_cases hlt : k < K
      · have bk : decide ((k : Int) < (K : Int)) = true := by rw [decide_eq_true_iff]; omega
        have hke : k < es.length := by omega
        obtain ⟨⟨a, e, _, ha⟩, hf⟩ := (H2.out.next HR.out.2) k hke
        subst e
        have HF := Lib.hid hf
        have HNK := Lib.hid (nums_at es hke)
        have hll := HLL.out k hke
        clear hf
        generalize es[k].l = le at ha HF HNK hll
        generalize es[k].A = Ae at ha HF
        generalize es[k].c = ce at ha
        by_cases h256 : le.length = 256
        · have t2 : ((le.length : Int) != 256) = false := by rw [bne_eq_false_iff_eq]; omega
          have l0 : le.length ≤ 256 := by omega
          have l1 : 256 ≤ le.length := by omega
          clear h256
          go_wp2
          go_loopw [11] (fun i wi => ∃ j n : Nat, j ≤ 256 ∧ i = .int .i64 j ∧ (∀ j', j' < j → 0 ≤ le.getD j' 0 ∧ le.getD j' 0 < 44) ∧ wi = wr.drewN n) (fun i _ => 256 - (intOf i).toNat)
          case atStart => exact ⟨0, 0, by omega, rfl, fun j hj => by omega, rfl⟩
          case round =>
            rename World => wi
            obtain ⟨j, n, hj, rfl, hin, hwi⟩ := hrel
            have HIN := Lib.hid hin
            have HWI := Lib.hid hwi
            have hrow2 : VRow w2 6 (nums es) k u9 wi := by rw [hwi]; exact ⟨HR.out.1, below_drewN HR.out.2 n⟩
            have HR2 := Lib.hid hrow2
            clear hin hrow2
            by_cases hjl : j < 256
            · have bj : decide ((j : Int) < 256) = true := by rw [decide_eq_true_iff]; omega
              obtain ⟨b, rfl, _, hbc0⟩ := HF.out j (by omega)
              have hbc : wi.cell? (b.add j) = some (.int .i64 (le.getD j 0)) := by rw [hwi]; exact hbc0
              have hac : wi.cell? (a.add k) = some (.slice (some b) le.length ce) := by rw [hwi]; exact ha
              have c7 : wi.cell? ⟨gs, 7, none⟩ = some (.int .i64 95232) := by rw [hwi]; exact (HN2.out.next HR.out.2).cell 7
              obtain ⟨x, hx⟩ : ∃ x, x = le.getD j 0 := ⟨_, rfl⟩
              rw [← hx] at hbc
              have HXX := Lib.hid hx
              have q1 : (j : Int) < (le.length : Int) := by omega
              have q2 : (0 : Int) ≤ (j : Int) := by omega
              have q3 : (k : Int) < (es.length : Int) := by omega
              have q4 : (0 : Int) ≤ (k : Int) := by omega
              clear hx hbc0 hwi
              by_cases hneg : x < 0
              · have d1 : decide (x < 0) = true := by rw [decide_eq_true_iff]; exact hneg
                have HBAD : Hid (¬ HighShape K 44 (nums es)) := fun g => by
                  have := (g.2 k (by omega)).2 j hjl
                  rw [HNK.out, ← HXX.out] at this
                  omega
                go_wp2
                go_quiet (fail)
                go_wp2
                go_ret2
                obtain ⟨rfl, rfl⟩ := HEB.out.2 HBAD.out
                exact resE_nil rfl (below_drewN (below_next HB2.out HR2.out.2) _)
              · have d1 : decide (x < 0) = false := by rw [decide_eq_false_iff_not]; exact hneg
                by_cases hbig : 44 ≤ x
                · have d2 : decide (44 ≤ x) = true := by rw [decide_eq_true_iff]; exact hbig
                  have HBAD : Hid (¬ HighShape K 44 (nums es)) := fun g => by
                    have := (g.2 k (by omega)).2 j hjl
                    rw [HNK.out, ← HXX.out] at this
                    omega
                  go_wp2
                  go_quiet (fail)
                  go_wp2
                  go_ret2
                  obtain ⟨rfl, rfl⟩ := HEB.out.2 HBAD.out
                  exact resE_nil rfl (below_drewN (below_next HB2.out HR2.out.2) _)
                · have d2 : decide (44 ≤ x) = false := by rw [decide_eq_false_iff_not]; exact hbig
                  have hnx : ∀ j', j' < j + 1 → 0 ≤ le.getD j' 0 ∧ le.getD j' 0 < 44 := fun j' hj' => by
                    by_cases e : j' = j
                    · subst e; rw [← HXX.out]; omega
                    · exact HIN.out j' (by omega)
                  have HNX := Lib.hid hnx
                  clear hnx
                  go_wp2
                  go_quiet (fail)
                  go_wp2
                  go_roundw
                  case rel => exact ⟨j + 1, n + nq, by omega, by go_num, HNX.out, by rw [HWI.out]; simp [World.drewN, Nat.add_assoc]⟩
                  case measure => simp [intOf]; omega
            · have bj : decide ((j : Int) < 256) = false := by rw [decide_eq_false_iff_not]; omega
              have e : j = 256 := by omega
              subst e
              have hac : wi.cell? (a.add k) = some (.slice Ae le.length ce) := by rw [hwi]; exact ha
              have hpoly : HighPoly 44 le := ⟨by omega, HIN.out⟩
              obtain ⟨hpk, hpl⟩ := pack_low (D := 6) (by omega) (by omega) (by decide) hpoly
              have HPL : Hid ((packI 6 le).length = 192) := hpl
              have HPOLY := Lib.hid hpoly
              have hlen := highL_len (D := 6) (M := 44) (h := nums es) (by omega) (by omega) (by decide) k HALL.out
              have hlb : (highL 6 (nums es) k).length ≤ 1536 := by
                rw [hlen]; have : 192 * k ≤ 192 * 8 := Nat.mul_le_mul_left _ (by omega)
                omega
              have HLB := Lib.hid hlb
              have HHF : Hid (Has .i64 wi wi.heap.size Ae le) := by show Has _ _ _ _ _; rw [hwi]; exact HF.out
              have hstep : highL 6 (nums es) (k + 1) = highL 6 (nums es) k ++ packI 6 le := by show _ ++ packI 6 ((nums es).getD k []) = _; rw [HNK.out]
              have HST := Lib.hid hstep
              clear hpk hpl hpoly hlen hlb hstep hwi
              go_wp2_with (first
                | (go_at_call 47; refine (refPack_any 6 Ae ce le.length le _ rfl HHF.out (by omega)).mono ?_; rintro e w5 ⟨A5, c5, rfl, ho5, hb5⟩; have HO5 := Lib.hid ho5; have HB5 := Lib.hid hb5; have HR5 := Lib.hid (own_next HR2.out.1 hb5); have HBB : Hid (Below w2.heap.size w2 w5) := below_next HR2.out.2 hb5; clear ho5 hb5)
                | (at_builtin; refine append_any w5 rfl _ _ 23 rfl w2.heap.size 5 i0 (.int .u8 0) 1 1 Tryd.underlying23 hi0 hz0 hz1 hz2 rfl (by decide) u9 (highL 6 (nums es) k).length _ rfl HR5.out A5 (packI 6 le).length c5 (ints .u8 (packI 6 le)) rfl (by rw [ints_length, Nat.mul_one]) (fun h => own_none HO5.out h) (own_read HO5.out).cells (ints_one _ _) (by unfold maxLen; have := HLB.out; have := HPL.out; omega) (by have := HLB.out; have := HPL.out; omega) HBB.out.size ?_; intro v7 w7 hown hgr; have hb7 : Below w2.heap.size w2 w7 := HBB.out.grown hgr HBB.out.size (fun q hq => (HR5.out.lt q hq).1); have HO7 := Lib.hid hown; have HB7 := Lib.hid hb7; clear hown hgr hb7))
              go_roundw
              case rel =>
                refine ⟨k + 1, by omega, by go_num, fun j' hj' => ?_, ?_⟩
                · by_cases e : j' = k
                  · subst e; rw [HNK.out]; exact HPOLY.out
                  · exact HALL.out j' (by omega)
                · refine ⟨?_, HB7.out⟩
                  rw [HST.out, List.length_append, ints_app]
                  exact HO7.out
              case measure => simp [intOf]; omega
        · have t2 : ((le.length : Int) != 256) = true := by rw [bne_iff_ne]; omega
          have HBAD : Hid (¬ HighShape K 44 (nums es)) := fun g => by
            have := (g.2 k (by omega)).1
            rw [HNK.out] at this
            exact h256 this
          clear h256
          go_wp2
          go_ret2
          obtain ⟨rfl, rfl⟩ := HEB.out.2 HBAD.out
          exact resE_nil rfl (below_next HB2.out HR.out.2)
      · have bk : decide ((k : Int) < (K : Int)) = false := by rw [decide_eq_false_iff_not]; omega
        have e : k = K := by omega
        subst e
        have HSH : Hid (HighShape k 44 (nums es)) := ⟨by rw [nums_len]; omega, HALL.out⟩
        go_wp2
        go_ret2
        obtain ⟨rfl, rfl⟩ := HEB.out.1 HSH.out
        obtain ⟨Ao, co, rfl⟩ := own_slice HR.out.1
        exact ⟨Ao, co, rfl, own_down HR.out.1 HB2.out.size, below_next HB2.out HR.out.2⟩
  · have t1 : ((es.length : Int) != (K : Int)) = true := by rw [bne_iff_ne]; omega
    have HBAD : Hid (¬ HighShape K 44 (nums es)) := fun g => by have := g.1; rw [nums_len] at this; exact hk this
    clear hk
    go_enter Tryd.func32, Tryd.ntmps32
    go_wp2_with (go_at_call 14; refine (refSet_any s _).mono ?_; rw [HX.out, HS.out]; rintro e w1 ⟨rfl, hb⟩; have HB := Lib.hid hb; clear hb)
    go_ret2
    obtain ⟨rfl, rfl⟩ := HEB.out.2 HBAD.out
    exact resE_nil rfl (HB.out.alloc HB.out.size _)

set_option maxRecDepth 100000 in
set_option maxHeartbeats 8000000 in
theorem refHigh_4 (s : Int) (A : Option Addr) (c : Nat) (es : List Ent) (w : World) (hs : setB s = true) (h : HasL w w.heap.size A es) (_hn : es.length ≤ 4000) (hl : ∀ i (h : i < es.length), es[i].l.length ≤ 4000)
    (K : Nat) (K1 : K ≤ 8) (x1 x2 x3 x4 x5 x6 x8 : Int) (hx : setV s = #[.int .i64 K, .int .i64 x1, .int .i64 x2, .int .i64 x3, .int .i64 x4, .int .i64 x5, .int .i64 x6, .int .i64 261888, .int .i64 x8]) (E : Int) (B : List Int)
    (hEB : (HighShape K 16 (nums es) → E = 0 ∧ B = highL 4 (nums es) K) ∧ (¬ HighShape K 16 (nums es) → E = 3 ∧ B = [])) :
    Calls Tryd.prog 32 #[.int .i64 s, .slice A es.length c] w (ResE w B E) := by
  have HX := Lib.hid hx
  have HS := Lib.hid hs
  have H := Lib.hid h
  have HLL := Lib.hid hl
  have HEB := Lib.hid hEB
  clear hx h hs hl hEB
  obtain ⟨i0, hi0, hz0, hz1, hz2⟩ := info_parts Tryd.info5
  by_cases hk : es.length = K
  · have t1 : ((es.length : Int) != (K : Int)) = false := by rw [bne_eq_false_iff_eq]; omega
    have k1 : es.length ≤ K := by omega
    have k2 : K ≤ es.length := by omega
    clear hk
    go_enter Tryd.func32, Tryd.ntmps32
    go_wp2_with (go_at_call 14; refine (refSet_any s _).mono ?_; rw [HX.out, HS.out]; rintro e w1 ⟨rfl, hb⟩; have HB := Lib.hid hb; clear hb)
    have hb2 : Below w.heap.size w (w1.alloc (.cells #[.int .i64 K, .int .i64 x1, .int .i64 x2, .int .i64 x3, .int .i64 x4, .int .i64 x5, .int .i64 x6, .int .i64 261888, .int .i64 x8] 33)) := HB.out.alloc HB.out.size _
    have hn2 := Nine.new w1 33 #[.int .i64 K, .int .i64 x1, .int .i64 x2, .int .i64 x3, .int .i64 x4, .int .i64 x5, .int .i64 x6, .int .i64 261888, .int .i64 x8]
    generalize w1.heap.size = gs at hn2
    generalize World.alloc _ _ = w2 at hb2 hn2 ⊢
    have H2 := Lib.hid (H.out.next hb2)
    have HB2 := Lib.hid hb2
    have HN2 := Lib.hid hn2
    clear HB hb2 hn2
    have HS0 : Hid (VRow w2 4 (nums es) 0 (.slice none 0 0) w2) := ⟨World.ownsRow_nil _ _ _ _, Below.refl _ _⟩
    go_loopw [9, 10] (fun v i wr => ∃ k : Nat, k ≤ K ∧ i = .int .i64 k ∧ (∀ j, j < k → HighPoly 16 ((nums es).getD j [])) ∧ VRow w2 4 (nums es) k v wr) (fun _ i _ => K - (intOf i).toNat)
    case atStart => exact ⟨0, by omega, rfl, fun j hj => by omega, HS0.out⟩
    case round =>
      obtain ⟨k, hkK, rfl, hall, hrow⟩ := hrel
      have HR := Lib.hid hrow
      have HALL := Lib.hid hall
      have c0 : wr.cell? ⟨gs, 0, none⟩ = some (.int .i64 K) := (HN2.out.next hrow.2).cell 0
      clear hrow HS0 hall
      by_cases hlt : k < K
      · have bk : decide ((k : Int) < (K : Int)) = true := by rw [decide_eq_true_iff]; omega
        have hke : k < es.length := by omega
        obtain ⟨⟨a, e, _, ha⟩, hf⟩ := (H2.out.next HR.out.2) k hke
        subst e
        have HF := Lib.hid hf
        have HNK := Lib.hid (nums_at es hke)
        have hll := HLL.out k hke
        clear hf
        generalize es[k].l = le at ha HF HNK hll
        generalize es[k].A = Ae at ha HF
        generalize es[k].c = ce at ha
        by_cases h256 : le.length = 256
        · have t2 : ((le.length : Int) != 256) = false := by rw [bne_eq_false_iff_eq]; omega
          have l0 : le.length ≤ 256 := by omega
          have l1 : 256 ≤ le.length := by omega
          clear h256
          go_wp2
          go_loopw [11] (fun i wi => ∃ j n : Nat, j ≤ 256 ∧ i = .int .i64 j ∧ (∀ j', j' < j → 0 ≤ le.getD j' 0 ∧ le.getD j' 0 < 16) ∧ wi = wr.drewN n) (fun i _ => 256 - (intOf i).toNat)
          case atStart => exact ⟨0, 0, by omega, rfl, fun j hj => by omega, rfl⟩
          case round =>
            rename World => wi
            obtain ⟨j, n, hj, rfl, hin, hwi⟩ := hrel
            have HIN := Lib.hid hin
            have HWI := Lib.hid hwi
            have hrow2 : VRow w2 4 (nums es) k u9 wi := by rw [hwi]; exact ⟨HR.out.1, below_drewN HR.out.2 n⟩
            have HR2 := Lib.hid hrow2
            clear hin hrow2
            by_cases hjl : j < 256
            · have bj : decide ((j : Int) < 256) = true := by rw [decide_eq_true_iff]; omega
              obtain ⟨b, rfl, _, hbc0⟩ := HF.out j (by omega)
              have hbc : wi.cell? (b.add j) = some (.int .i64 (le.getD j 0)) := by rw [hwi]; exact hbc0
              have hac : wi.cell? (a.add k) = some (.slice (some b) le.length ce) := by rw [hwi]; exact ha
              have c7 : wi.cell? ⟨gs, 7, none⟩ = some (.int .i64 261888) := by rw [hwi]; exact (HN2.out.next HR.out.2).cell 7
              obtain ⟨x, hx⟩ : ∃ x, x = le.getD j 0 := ⟨_, rfl⟩
              rw [← hx] at hbc
              have HXX := Lib.hid hx
              have q1 : (j : Int) < (le.length : Int) := by omega
              have q2 : (0 : Int) ≤ (j : Int) := by omega
              have q3 : (k : Int) < (es.length : Int) := by omega
              have q4 : (0 : Int) ≤ (k : Int) := by omega
              clear hx hbc0 hwi
              by_cases hneg : x < 0
              · have d1 : decide (x < 0) = true := by rw [decide_eq_true_iff]; exact hneg
                have HBAD : Hid (¬ HighShape K 16 (nums es)) := fun g => by
                  have := (g.2 k (by omega)).2 j hjl
                  rw [HNK.out, ← HXX.out] at this
                  omega
                go_wp2
                go_quiet (fail)
                go_wp2
                go_ret2
                obtain ⟨rfl, rfl⟩ := HEB.out.2 HBAD.out
                exact resE_nil rfl (below_drewN (below_next HB2.out HR2.out.2) _)
              · have d1 : decide (x < 0) = false := by rw [decide_eq_false_iff_not]; exact hneg
                by_cases hbig : 16 ≤ x
                · have d2 : decide (16 ≤ x) = true := by rw [decide_eq_true_iff]; exact hbig
                  have HBAD : Hid (¬ HighShape K 16 (nums es)) := fun g => by
                    have := (g.2 k (by omega)).2 j hjl
                    rw [HNK.out, ← HXX.out] at this
                    omega
                  go_wp2
                  go_quiet (fail)
                  go_wp2
                  go_ret2
                  obtain ⟨rfl, rfl⟩ := HEB.out.2 HBAD.out
                  exact resE_nil rfl (below_drewN (below_next HB2.out HR2.out.2) _)
                · have d2 : decide (16 ≤ x) = false := by rw [decide_eq_false_iff_not]; exact hbig
                  have hnx : ∀ j', j' < j + 1 → 0 ≤ le.getD j' 0 ∧ le.getD j' 0 < 16 := fun j' hj' => by
                    by_cases e : j' = j
                    · subst e; rw [← HXX.out]; omega
                    · exact HIN.out j' (by omega)
                  have HNX := Lib.hid hnx
                  clear hnx
                  go_wp2
                  go_quiet (fail)
                  go_wp2
                  go_roundw
                  case rel => exact ⟨j + 1, n + nq, by omega, by go_num, HNX.out, by rw [HWI.out]; simp [World.drewN, Nat.add_assoc]⟩
                  case measure => simp [intOf]; omega
            · have bj : decide ((j : Int) < 256) = false := by rw [decide_eq_false_iff_not]; omega
              have e : j = 256 := by omega
              subst e
              have hac : wi.cell? (a.add k) = some (.slice Ae le.length ce) := by rw [hwi]; exact ha
              have hpoly : HighPoly 16 le := ⟨by omega, HIN.out⟩
              obtain ⟨hpk, hpl⟩ := pack_low (D := 4) (by omega) (by omega) (by decide) hpoly
              have HPL : Hid ((packI 4 le).length = 128) := hpl
              have HPOLY := Lib.hid hpoly
              have hlen := highL_len (D := 4) (M := 16) (h := nums es) (by omega) (by omega) (by decide) k HALL.out
              have hlb : (highL 4 (nums es) k).length ≤ 1024 := by
                rw [hlen]; have : 128 * k ≤ 128 * 8 := Nat.mul_le_mul_left _ (by omega)
                omega
              have HLB := Lib.hid hlb
              have HHF : Hid (Has .i64 wi wi.heap.size Ae le) := by show Has _ _ _ _ _; rw [hwi]; exact HF.out
              have hstep : highL 4 (nums es) (k + 1) = highL 4 (nums es) k ++ packI 4 le := by show _ ++ packI 4 ((nums es).getD k []) = _; rw [HNK.out]
              have HST := Lib.hid hstep
              clear hpk hpl hpoly hlen hlb hstep hwi
              go_wp2_with (first
                | (go_at_call 47; refine (refPack_any 4 Ae ce le.length le _ rfl HHF.out (by omega)).mono ?_; rintro e w5 ⟨A5, c5, rfl, ho5, hb5⟩; have HO5 := Lib.hid ho5; have HB5 := Lib.hid hb5; have HR5 := Lib.hid (own_next HR2.out.1 hb5); have HBB : Hid (Below w2.heap.size w2 w5) := below_next HR2.out.2 hb5; clear ho5 hb5)
                | (at_builtin; refine append_any w5 rfl _ _ 23 rfl w2.heap.size 5 i0 (.int .u8 0) 1 1 Tryd.underlying23 hi0 hz0 hz1 hz2 rfl (by decide) u9 (highL 4 (nums es) k).length _ rfl HR5.out A5 (packI 4 le).length c5 (ints .u8 (packI 4 le)) rfl (by rw [ints_length, Nat.mul_one]) (fun h => own_none HO5.out h) (own_read HO5.out).cells (ints_one _ _) (by unfold maxLen; have := HLB.out; have := HPL.out; omega) (by have := HLB.out; have := HPL.out; omega) HBB.out.size ?_; intro v7 w7 hown hgr; have hb7 : Below w2.heap.size w2 w7 := HBB.out.grown hgr HBB.out.size (fun q hq => (HR5.out.lt q hq).1); have HO7 := Lib.hid hown; have HB7 := Lib.hid hb7; clear hown hgr hb7))
              go_roundw
              case rel =>
                refine ⟨k + 1, by omega, by go_num, fun j' hj' => ?_, ?_⟩
                · by_cases e : j' = k
                  · subst e; rw [HNK.out]; exact HPOLY.out
                  · exact HALL.out j' (by omega)
                · refine ⟨?_, HB7.out⟩
                  rw [HST.out, List.length_append, ints_app]
                  exact HO7.out
              case measure => simp [intOf]; omega
        · have t2 : ((le.length : Int) != 256) = true := by rw [bne_iff_ne]; omega
          have HBAD : Hid (¬ HighShape K 16 (nums es)) := fun g => by
            have := (g.2 k (by omega)).1
            rw [HNK.out] at this
            exact h256 this
          clear h256
          go_wp2
          go_ret2
          obtain ⟨rfl, rfl⟩ := HEB.out.2 HBAD.out
          exact resE_nil rfl (below_next HB2.out HR.out.2)
      · have bk : decide ((k : Int) < (K : Int)) = false := by rw [decide_eq_false_iff_not]; omega
        have e : k = K := by omega
        subst e
        have HSH : Hid (HighShape k 16 (nums es)) := ⟨by rw [nums_len]; omega, HALL.out⟩
        go_wp2
        go_ret2
        obtain ⟨rfl, rfl⟩ := HEB.out.1 HSH.out
        obtain ⟨Ao, co, rfl⟩ := own_slice HR.out.1
        exact ⟨Ao, co, rfl, own_down HR.out.1 HB2.out.size, below_next HB2.out HR.out.2⟩
  · have t1 : ((es.length : Int) != (K : Int)) = true := by rw [bne_iff_ne]; omega
    have HBAD : Hid (¬ HighShape K 16 (nums es)) := fun g => by have := g.1; rw [nums_len] at this; exact hk this
    clear hk
    go_enter Tryd.func32, Tryd.ntmps32
    go_wp2_with (go_at_call 14; refine (refSet_any s _).mono ?_; rw [HX.out, HS.out]; rintro e w1 ⟨rfl, hb⟩; have HB := Lib.hid hb; clear hb)
    go_ret2
    obtain ⟨rfl, rfl⟩ := HEB.out.2 HBAD.out
    exact resE_nil rfl (HB.out.alloc HB.out.size _)

set_option maxRecDepth 100000 in
set_option maxHeartbeats 2000000 in
theorem refHigh_none (s : Int) (A : Option Addr) (c : Nat) (es : List Ent) (w : World) (hs : ¬ setB s = true) :
    Calls Tryd.prog 32 #[.int .i64 s, .slice A es.length c] w (ResE w [] 2) := by
  obtain ⟨h1, h2, h3⟩ := set_no hs
  clear hs
  go_enter Tryd.func32, Tryd.ntmps32
  go_wp2_with (go_at_call 14; refine (refSet_0 s _ h1 h2 h3).mono ?_; rintro e w1 ⟨rfl, hb⟩; have HB := Lib.hid hb; clear hb)
  go_ret2
  exact resE_nil rfl (HB.out.alloc HB.out.size _)

theorem refHigh_any (s : Int) (A : Option Addr) (c : Nat) (es : List Ent) (w : World) (h : HasL w w.heap.size A es) (hn : es.length ≤ 4000) (hl : ∀ i (h : i < es.length), es[i].l.length ≤ 4000) :
    Calls Tryd.prog 32 #[.int .i64 s, .slice A es.length c] w (ResE w (uB s (nums es)) (uE s (nums es))) := by
  by_cases hs : setB s = true
  · obtain ⟨x1, x2, x3, x4, x5, x6, x8, hx⟩ := set_kg hs
    obtain ⟨_, K1, _, _⟩ := kw_bd s
    have hEB : (HighShape (kOf s) (mOf s) (nums es) → uE s (nums es) = 0 ∧ uB s (nums es) = highL (dOf s) (nums es) (kOf s)) ∧ (¬ HighShape (kOf s) (mOf s) (nums es) → uE s (nums es) = 3 ∧ uB s (nums es) = []) := by
      unfold uE uB
      rw [if_pos hs]
      exact ⟨fun g => ⟨if_pos g, if_pos ⟨hs, g⟩⟩, fun g => ⟨if_neg g, if_neg fun q => g q.2⟩⟩
    rcases set_cases s with rfl | rfl | rfl | ⟨h1, h2, h3⟩
    · exact refHigh_6 1 A c es w hs h hn hl _ K1 x1 x2 x3 x4 x5 x6 x8 hx _ _ hEB
    · exact refHigh_4 2 A c es w hs h hn hl _ K1 x1 x2 x3 x4 x5 x6 x8 hx _ _ hEB
    · exact refHigh_4 3 A c es w hs h hn hl _ K1 x1 x2 x3 x4 x5 x6 x8 hx _ _ hEB
    · unfold setB at hs; simp [h1, h2, h3] at hs
  · have e1 : uE s (nums es) = 2 := if_neg hs
    have e2 : uB s (nums es) = [] := if_neg fun q => hs q.1
    rw [e1, e2]
    exact refHigh_none s A c es w hs
end Go.Proofs.YtoigpehpgpogfaaDoor
