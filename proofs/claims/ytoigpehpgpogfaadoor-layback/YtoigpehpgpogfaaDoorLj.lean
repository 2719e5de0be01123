/- The law LayBack, walked. -/
import Derived.Test.YtoigpehpgpogfaaDoorLh
import Derived.Test.YtoigpehpgpogfaaDoorLi
namespace Go.Proofs.YtoigpehpgpogfaaDoor
open Go.RowKit Slices Go.Proofs.YtoigpehpgpogfaaDoor.Bit

/-- a poly at g whose first k numbers are within bounds -/
def BRow (w : World) (a b : Int) (g N k : Nat) (wr : World) : Prop :=
  ∃ l : List Int, wr.ownsRow w.heap.size 3 1 (.slice (some ⟨g, 0, none⟩) N N) N (ints .i64 l) ∧ (∀ j, okN (l.getD j 0)) ∧ InTo a b l k ∧ Below w.heap.size w wr

theorem near_fit8 (a b : Int) (f : List Int) : Fit 8 (nearI a b f) := by
  by_cases h : NearOk a b f
  · have hf := less_fit h
    have hw := width_le a b
    rw [near_yes h, packI_yes h.1 (by omega) hf]
    intro i hi
    rw [int_len] at hi
    rw [int_at]
    rw [packN_len] at hi
    rw [packN_at _ _ hi]
    have := num_lt (fun t => strm (widthI a b) (nat (lessL b f)) (8 * i + t)) 8
    omega
  · rw [near_no h]; intro i hi; cases hi
theorem low_some (z n : Int) (w : World) (h0 : 1 ≤ n) (h1 : n ≤ 4611686018427387904) :
    Calls Tryd.prog 25 #[.int .i64 z, .int .i64 n] w fun e w' => ∃ v, e = .returned (.int .i64 v) ∧ 0 ≤ v ∧ v < n ∧ w = w' :=
  (lawLow_any z n w h0 h1).mono fun _ _ h => ⟨low z n, h.1, low_lo z h0, low_hi z h0, h.2⟩

set_option maxRecDepth 100000 in
set_option maxHeartbeats 1000000 in
theorem layBack_big (P : LayOk) (a b : Int) (A : Option Addr) (c n : Nat) (w : World) (hn : n ≤ 4611686018427387904) (h : 300 < n ∨ n = 0) (hg : Han w) :
    Calls Tryd.prog 4 #[.int .i64 a, .int .i64 b, .slice A n c] w fun e w' => e = .returned (.bool true) ∧ Below w.heap.size w w' := by
  have HG := Lib.hid hg
  clear hg
  by_cases h1 : 300 < n
  · clear h
    go_enter Tryd.func4, Tryd.ntmps4
    go_wp2_with (go_at_call 8; refine (awake_any P _ HG.out).mono ?_; rintro e w' ⟨rfl, hb⟩)
    go_ret
    exact ⟨rfl, hb⟩
  · have h2 : n = 0 := by omega
    subst h2
    clear h
    go_enter Tryd.func4, Tryd.ntmps4
    go_wp2_with (go_at_call 8; refine (awake_any P _ HG.out).mono ?_; rintro e w' ⟨rfl, hb⟩)
    go_ret
    exact ⟨rfl, hb⟩

set_option maxRecDepth 100000 in
set_option maxHeartbeats 4000000 in
theorem layBack_small (P : LayOk) (a b : Int) (A : Option Addr) (c : Nat) (ns : List Int) (w : World) (h : Has .i64 w w.heap.size A ns) (h1 : ns.length ≤ 300) (h0 : 0 < ns.length) (hg : Han w) :
    Calls Tryd.prog 4 #[.int .i64 a, .int .i64 b, .slice A ns.length c] w fun e w' => e = .returned (.bool true) ∧ Below w.heap.size w w' := by
  obtain ⟨i0, hi0, hz0, hz1, hz2⟩ := info_parts Tryd.info3
  have a0 := low_lo a (n := 1048577) (by omega)
  have a1 := low_hi a (n := 1048577) (by omega)
  have b0 := low_lo b (n := 1048577) (by omega)
  have b1 := low_hi b (n := 1048577) (by omega)
  obtain ⟨x, hx⟩ : ∃ x, x = low a 1048577 := ⟨_, rfl⟩
  obtain ⟨y, hy⟩ : ∃ y, y = low b 1048577 := ⟨_, rfl⟩
  rw [← hx] at a0 a1
  rw [← hy] at b0 b1
  have HX := Lib.hid hx
  have HY := Lib.hid hy
  have HG := Lib.hid hg
  have H := Lib.hid h
  have t1 : ((ns.length : Int) == 0) = false := by rw [beq_eq_false_iff_ne]; omega
  obtain ⟨N, hN⟩ : ∃ N : Nat, N = 256 := ⟨_, rfl⟩
  have n0 : N ≤ 256 := by omega
  have n1 : 256 ≤ N := by omega
  have HN := Lib.hid hN
  clear hx hy hg h hN
  have HLX : Hid (∀ w : World, Calls Tryd.prog 25 #[.int .i64 a, .int .i64 1048577] w fun e w' => e = .returned (.int .i64 x) ∧ w = w') := fun w => by rw [HX.out]; exact lawLow_any a 1048577 w (by omega) (by omega)
  have HLY : Hid (∀ w : World, Calls Tryd.prog 25 #[.int .i64 b, .int .i64 1048577] w fun e w' => e = .returned (.int .i64 y) ∧ w = w') := fun w => by rw [HY.out]; exact lawLow_any b 1048577 w (by omega) (by omega)
  by_cases hz : x + y = 0
  · have t2 : (x + y == 0) = true := by rw [beq_iff_eq]; exact hz
    go_enter Tryd.func4, Tryd.ntmps4
    go_wp2_with (first
      | (go_at_call 25; (first | (with_reducible refine (HLX.out _).mono ?_) | (with_reducible refine (HLY.out _).mono ?_)); rintro e w' ⟨rfl, rfl⟩)
      | (go_at_call 8; refine (awake_any P _ HG.out).mono ?_; rintro e w' ⟨rfl, hb⟩))
    go_ret
    exact ⟨rfl, hb⟩
  · have t2 : (x + y == 0) = false := by rw [beq_eq_false_iff_ne]; exact hz
    have hbd : Bounds x y := by unfold Bounds; omega
    have HBD := Lib.hid hbd
    have HW := Lib.hid (width_pos hbd hz)
    clear hz hbd
    go_enter Tryd.func4, Tryd.ntmps4
    go_wp2_with (first
      | (go_at_call 25; (first | (with_reducible refine (HLX.out _).mono ?_) | (with_reducible refine (HLY.out _).mono ?_)); rintro e w' ⟨rfl, rfl⟩)
      | (at_make; refine wpList_make_full _ rfl _ _ 22 rfl w.heap.size 3 i0 (.int .i64 0) 1 Tryd.underlying22 hi0 hz0 hz1 _ _ _ _ N rfl rfl (by omega) (by omega) (by rw [hz2]; omega) (by unfold maxLen; omega) (Nat.le_refl _) ?_; intro w1 hown hgrow; rw [made_ints] at hown; have HO := Lib.hid hown; clear hown; have HGR := Lib.hid hgrow; clear hgrow))
    clear HLX HLY
    have HS : Hid (BRow w x y w.heap.size N 0 w1) := ⟨List.replicate N 0, HO.out, fun j => by rw [zeros_at]; unfold okN; omega, fun j hj => by omega, (Below.refl _ _).grown HGR.out (Nat.le_refl _) (by simp)⟩
    clear HO HGR
    go_loopw [8] (fun i wr => ∃ k : Nat, k ≤ 256 ∧ i = .int .i64 k ∧ BRow w x y w.heap.size N k wr) (fun i _ => 256 - (intOf i).toNat)
    case atStart => exact ⟨0, by omega, rfl, HS.out⟩
    case round =>
      obtain ⟨k, hk, rfl, hr⟩ := hrel
      have HR := Lib.hid hr
      clear hr HS
      by_cases hlt : k < 256
      · have bk : decide ((k : Int) < 256) = true := by rw [decide_eq_true_iff]; omega
        have hm : k % ns.length < ns.length := Nat.mod_lt _ h0
        obtain ⟨ad, rfl, hb, ha⟩ := H.out (k % ns.length) hm
        obtain ⟨l, hown, hok, hin, hbel⟩ := HR.out
        have hcell : wr.cell? (ad.add (k % ns.length)) = some (.int .i64 (ns.getD (k % ns.length) 0)) := (hbel.cell (by rw [add_block]; exact hb)).trans ha
        have hc := own_cell hown (k := k) (by omega)
        have hf := hown.frozenAt k
        have hll := own_len hown
        have HO := Lib.hid hown
        have HB := Lib.hid hbel
        have HOK := Lib.hid hok
        have HIN := Lib.hid hin
        have HLL := Lib.hid hll
        obtain ⟨kk, hkk⟩ : ∃ kk : Int, (k : Int) * (k : Int) = kk := ⟨_, rfl⟩
        have k0 : 0 ≤ kk := by rw [← hkk]; exact Int.mul_nonneg (by omega) (by omega)
        have k1 : kk ≤ 65536 := by
          rw [← hkk]
          have h1 : k * k ≤ 256 * 256 := Nat.mul_le_mul hk hk
          have : ((k * k : Nat) : Int) = (k : Int) * (k : Int) := by simp
          omega
        clear hown hbel ha hok hin hll
        generalize ns.getD (k % ns.length) 0 = zz at hcell
        go_wp2_with (go_at_call 25; refine (low_some _ _ _ (by omega) (by omega)).mono ?_; rintro e w' ⟨v, rfl, v0, v1, rfl⟩)
        go_roundw
        case rel =>
          obtain ⟨q1, q2⟩ := about_in HBD.out v0 (by omega)
          have e : (v - x + 8380417) % 8380417 = (v - x) % 8380417 := by omega
          rw [e] at q1 q2
          exact ⟨k + 1, by omega, by go_num, l.set k _, own_set HO.out k _, ok_set HOK.out k q1, in_set HIN.out (by have := HLL.out; omega) q2, HB.out.setCell (Nat.le_refl _) _⟩
        case measure => simp [intOf]; omega
      · have bk : decide ((k : Int) < 256) = false := by rw [decide_eq_false_iff_not]; omega
        have e : k = 256 := by omega
        subst e
        obtain ⟨l, hown, hok, hin, hbel⟩ := HR.out
        have hll := own_len hown
        have hnear : NearOk x y l := ⟨HW.out, ⟨by omega, fun j _ => hok j⟩, hin⟩
        have HNO := Lib.hid hnear
        have HO := Lib.hid hown
        have HB := Lib.hid hbel
        have HLL := Lib.hid hll
        clear hown hok hin hbel hll hnear HR bk
        go_wp2_with fail
        refine (P.near x y (some ⟨w.heap.size, 0, none⟩) N N l wr (by have := HLL.out; omega) (own_has HO.out) (by have := HLL.out; omega)).mono ?_
        rintro e w2 ⟨Ap, cp, rfl, ho, hb⟩
        have HO2 := Lib.hid (own_next HO.out hb)
        have HB2 := Lib.hid (below_next HB.out hb)
        have P2 := Lib.hid (Mine.of ho hb)
        clear ho hb HO HB
        go_wp2_with fail
        refine (P.far x y Ap cp _ (nearI x y l) w2 rfl P2.out.read (near_fit8 x y l) (near_len x y l)).mono ?_
        rw [far_near HNO.out]
        rintro e w3 ⟨Au, cu, rfl, ho, hb⟩
        have HO3 := Lib.hid (own_next HO2.out hb)
        have HB3 := Lib.hid (below_next HB2.out hb)
        have U3 := Lib.hid (Mine.of ho hb)
        have e32 := near_full HNO.out
        have wpos := HW.out
        have wle := width_le x y
        have eN : l.length = N := HLL.out
        generalize widthI x y = D at e32 wpos wle
        have HE := Lib.hid e32
        have HLE := Lib.hid eN
        have r1 : (0 : Int) < ((nearI x y l).length : Int) := by omega
        have r2 : (((nearI x y l).length : Int) % 32 == 0) = true := by rw [beq_iff_eq]; omega
        clear ho hb HO2 HB2 P2 e32 eN
        obtain ⟨ad, rfl, hab, hac⟩ := H.out 0 h0
        rw [show ad.add 0 = ad from by unfold Addr.add; rw [if_pos rfl]] at hac
        have HA0 : Hid (ad.block < w.heap.size ∧ w.cell? ad = some (.int .i64 (ns.getD 0 0))) := ⟨hab, hac⟩
        clear hab hac
        have HC : Hid (∀ j u, (ints .i64 l)[j]? = some u → w3.cell? ((⟨w.heap.size, 0, none⟩ : Addr).add j) = some u) := (own_has HO3.out).cells _ rfl
        go_wp2_with (first
          | (go_at_call 25; refine (low_some _ _ _ (by omega) (by omega)).mono ?_; rintro e w' ⟨v, rfl, v0, v1, rfl⟩; obtain ⟨j, rfl⟩ : ∃ j : Nat, v = j := ⟨v.toNat, by omega⟩; have cj := HCW.out j (by omega); have fj := HFW.out j; clear HCW HFW; generalize l.getD j 0 = lj at cj)
          | (at_builtin; refine wpList_append_own _ rfl _ _ 22 rfl w3.heap.size 3 i0 (.int .i64 0) 1 8 Tryd.underlying22 hi0 hz0 hz1 hz2 rfl (by decide) _ _ _ rfl (World.ownsRow_nil _ _ _ _) ⟨w.heap.size, 0, none⟩ N N (ints .i64 l) rfl (by rw [ints_length]; have := HLE.out; omega) (by intro j u hu; exact HC.out j u hu) (ints_one .i64 l) (by unfold maxLen; omega) (by omega) (Nat.le_refl _) ?_; intro v1 w4 hown hgrow hnil; clear hnil; rw [List.nil_append, Nat.zero_add] at hown; obtain ⟨g4, c4, rfl, hg4⟩ := own_form hown (by omega); have hb4 : Below w3.heap.size w3 w4 := (Below.refl _ _).grown hgrow (Nat.le_refl _) (fun k hk => by cases hk); have HO4 := Lib.hid hown; have HB4 := Lib.hid hb4; have cell0 : w4.cell? ad = some (.int .i64 (ns.getD 0 0)) := ((below_next HB3.out hb4).cell HA0.out.1).trans HA0.out.2; generalize ns.getD 0 0 = z0 at cell0; have cW := fun (j : Nat) (hj : j < N) => own_cell hown (k := j) hj; have fW := hown.frozenAt; have HCW := Lib.hid cW; have HFW := Lib.hid fW; clear hown hgrow hb4 cW fW hg4))
        have HB5 : Hid (Below w3.heap.size w3 (w4.setCell ⟨g4, j, none⟩ (.int .i64 (y + 1)))) := HB4.out.setCell (own_block HO4.out).1 _
        have HO5 : Hid ((w4.setCell ⟨g4, j, none⟩ (.int .i64 (y + 1))).ownsRow w3.heap.size 3 1 (.slice (some ⟨g4, 0, none⟩) N c4) N (ints .i64 (l.set j (y + 1)))) := own_set HO4.out j _
        clear HB4 HO4 cj fj cell0
        generalize World.setCell _ _ _ = w5 at HB5 HO5 ⊢
        have HJ : Hid (j < 256) := by show j < 256; omega
        refine (same_eq Au (some ⟨w.heap.size, 0, none⟩) cu N l.length N l l w5 rfl rfl (by have := HLE.out; omega) (by have := HLE.out; omega) (U3.out.next HB5.out).read (own_has (own_next HO3.out HB5.out))).mono ?_
        rintro e w6 ⟨rfl, hb⟩
        have HB6 := Lib.hid (below_next (below_next HB3.out HB5.out) hb)
        have HO6 := Lib.hid (own_next HO5.out hb)
        clear hb HB5 HO5 U3 HB3 HO3
        go_wp2_with fail
        refine (P.near x y (some ⟨g4, 0, none⟩) c4 N (l.set j (y + 1)) w6 (by rw [List.length_set]; have := HLE.out; omega) (own_has HO6.out) (by rw [List.length_set]; have := HLE.out; omega)).mono ?_
        rw [near_no (out_not HBD.out HJ.out (by have := HLE.out; omega))]
        rintro e w7 ⟨A7, c7, rfl, _, hb⟩
        have HB7 := Lib.hid (below_next HB6.out hb)
        clear hb HB6 HO6
        go_wp2_with fail
        refine (awake_any P w7 (HG.out.below HB7.out)).mono ?_
        rintro e w8 ⟨rfl, hb⟩
        have HB8 := Lib.hid (below_next HB7.out hb)
        clear hb HB7
        go_wp2
        go_ret
        exact ⟨rfl, HB8.out⟩
end Go.Proofs.YtoigpehpgpogfaaDoor
