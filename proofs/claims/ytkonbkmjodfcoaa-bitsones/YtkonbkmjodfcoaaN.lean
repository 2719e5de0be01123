/- Lists of numbers of some bits, made of any numbers. -/
import Derived.Test.YtkonbkmjodfcoaaK
import Derived.Deep.RegionHeld3
namespace Go.Proofs.Ytkonbkmjodfcoaa
open Go.RowKit Slices Go.Proofs.Ytkonbkmjodfcoaa.Bit

/-- any numbers, cut to D bits -/
def lows (D : Nat) (l : List Int) : List Int := l.map fun x => low x (2 ^ D)
theorem lows_len (D : Nat) (l : List Int) : (lows D l).length = l.length := by simp [lows]
theorem pow_pos1 (D : Nat) : (1 : Int) ≤ 2 ^ D := by rw [pow_cast]; have := Nat.two_pow_pos D; omega
theorem lows_at {D : Nat} {l : List Int} {k : Nat} (h : k < l.length) : (lows D l).getD k 0 = low (l.getD k 0) (2 ^ D) := by
  simp [lows, List.getD_eq_getElem?_getD, List.getElem?_eq_getElem h]
theorem lows_fit (D : Nat) (l : List Int) : Fit D (lows D l) := fun i hi => by
  rw [lows_len] at hi
  rw [lows_at hi]
  exact ⟨low_lo _ (pow_pos1 D), low_hi _ (pow_pos1 D)⟩
theorem take_next {l : List Int} {k : Nat} (h : k < l.length) : l.take (k + 1) = l.take k ++ [l.getD k 0] := by
  rw [List.take_succ_eq_append_getElem h, List.getD_eq_getElem?_getD, List.getElem?_eq_getElem h]; rfl

/-- the first k numbers of f are made, in a row of the call's own from B on -/
def XRow (B : Nat) (w : World) (f : List Int) (k : Nat) (v : Value) (wr : World) : Prop := wr.ownsRow B 3 1 v k (ints .i64 (f.take k)) ∧ Below w.heap.size w wr ∧ w.heap.size ≤ B ∧ B ≤ wr.heap.size
theorem XRow.more {B : Nat} {w wr w1 : World} {f : List Int} {k : Nat} {v v1 : Value} {y : Int} (h : XRow B w f k v wr) (hk : k < f.length) (hy : y = f.getD k 0)
    (ho : w1.ownsRow B 3 1 v1 (k + 1) (ints .i64 (f.take k) ++ [.int .i64 y])) (hb : Below B wr w1) : XRow B w f (k + 1) v1 w1 := by
  refine ⟨?_, h.2.1.trans (hb.mono h.2.2.1), h.2.2.1, Nat.le_trans h.2.2.2 hb.size⟩
  rw [take_next hk, ← hy, ← ints_snoc]
  exact ho
theorem XRow.all {B : Nat} {w wr : World} {f : List Int} {k : Nat} {v : Value} (h : XRow B w f k v wr) (hk : k = f.length) : ∃ A c, v = .slice A f.length c ∧ Mine .i64 3 B A c f wr := by
  obtain ⟨ho, hb, hB, hw⟩ := h
  subst hk
  rw [List.take_length] at ho
  obtain ⟨A, c, rfl⟩ := own_slice ho
  exact ⟨A, c, rfl, ho, hw⟩

/-- numbers of natural ones fit -/
theorem fit_int {d : Nat} {l : List Nat} (h : ∀ i, i < l.length → l.getD i 0 < 2 ^ d) : Fit d (int l) := fun i hi => by
  rw [int_len] at hi
  have := h i hi
  rw [int_at, pow_cast]
  omega
theorem fit_packed (D : Nat) (X : List Nat) : Fit 8 (int (packN D X)) := fit_int fun i hi => by
  rw [packN_len] at hi
  rw [packN_at D X hi]; exact num_lt _ _
theorem fit_unpacked (D : Nat) (b : List Nat) : Fit D (int (unpackN D b)) := fit_int fun i hi => by
  rw [unpackN_len] at hi
  rw [unpackN_at D b hi]; exact num_lt _ _
theorem fit_back {D : Nat} {L : List Int} (h : Fit D L) : int (nat L) = L := int_nat fun i hi => (h i hi).1
theorem take_at {l m : List Nat} (hl : m.length ≤ l.length) (h : ∀ i, i < m.length → l.getD i 0 = m.getD i 0) : l.take m.length = m := by
  apply list_ext (by rw [List.length_take]; omega)
  intro i hi
  rw [List.length_take] at hi
  have hi2 : i < m.length := by omega
  rw [← h i hi2, List.getD_eq_getElem?_getD, List.getD_eq_getElem?_getD, List.getElem?_take_of_lt hi2]
/-- what was packed is unpacked as it was -/
theorem back_take {D : Nat} {L : List Int} {n : Nat} (hD : 0 < D) (h : Fit D L) (hn : L.length = n) : (int (unpackN D (packN D (nat L)))).take n = L := by
  subst hn
  have := take_at (l := unpackN D (packN D (nat L))) (m := nat L) (unpack_pack_len hD _) fun i hi => unpack_pack hD h.nat (Nat.lt_of_lt_of_le hi (unpack_pack_len hD _))
  rw [nat_len] at this
  rw [int_take, this, fit_back h]
theorem back_zero {D : Nat} {L : List Int} {k : Nat} (hD : 0 < D) (h : Fit D L) (hk : L.length ≤ k) (hk2 : k < (int (unpackN D (packN D (nat L)))).length) : (int (unpackN D (packN D (nat L)))).getD k 0 = 0 := by
  rw [int_len] at hk2
  rw [int_at, unpack_pack hD h.nat hk2, getD_out (by rw [nat_len]; exact hk)]; rfl
theorem back_len {D : Nat} (L : List Int) (hD : 0 < D) : L.length ≤ (int (unpackN D (packN D (nat L)))).length := by
  have := unpack_pack_len hD (nat L)
  rwa [nat_len, ← int_len] at this
/-- bytes of whole numbers are packed as they were -/
theorem bytes_back {D : Nat} {g : List Int} (hD : 0 < D) (h : Fit 8 g) (hm : g.length % D = 0) : int (packN D (nat (int (unpackN D (nat g))))) = g := by
  rw [nat_int, pack_unpack hD h.nat (by rw [nat_len]; exact hm), fit_back h]
theorem own_cap {t : TypeId} {w : World} {B n c : Nat} {A : Option Addr} {xs : List Value} (h : w.ownsRow B t 1 (.slice A n c) n xs) : n ≤ c := by
  rcases h.2 with ⟨hv, h0⟩ | ⟨g, c', cur, hv, hB, hg, hnc, hr⟩
  · omega
  · injection hv with _ _ h3
    omega
theorem fit_take {d : Nat} {g : List Int} (h : Fit d g) (n : Nat) : Fit d (g.take n) := fun i hi => by
  rw [List.length_take] at hi
  rw [getD_take g n i (by omega)]
  exact h i (by omega)

set_option maxRecDepth 100000 in
set_option maxHeartbeats 800000 in
theorem back_small (d : Int) (A A' : Option Addr) (c c' : Nat) (f g : List Int) (w : World) (hf : Has .i64 w w.heap.size A f) (hg : Has .u8 w w.heap.size A' g) (h1 : f.length ≤ 200) (h2 : g.length ≤ 200) (hc' : g.length ≤ c') (hfit : Fit 8 g) :
    Calls Try.prog 4 #[.int .i64 d, .slice A f.length c, .slice A' g.length c'] w fun e w' => e = .returned (.bool true) ∧ Below w.heap.size w w' := by
  obtain ⟨i0, hi0, hz0, hz1, hz2⟩ := info_parts Try.info3
  have HF := Lib.hid hf
  have HG := Lib.hid hg
  have HFIT := Lib.hid hfit
  clear hf hg hfit
  obtain ⟨E, hE⟩ := Int.eq_ofNat_of_zero_le (low_lo d (n := 24) (by omega))
  have hE1 := low_hi d (n := 24) (by omega)
  rw [hE] at hE1
  obtain ⟨D, hD⟩ : ∃ D : Nat, D = 1 + E := ⟨_, rfl⟩
  have hD1 : 1 ≤ D := by omega
  have hD2 : D ≤ 24 := by omega
  have hDI : (1 : Int) + (E : Int) = (D : Int) := by omega
  clear hD
  obtain ⟨P, hP⟩ : ∃ P : Int, (2 : Int) ^ D = P := ⟨_, rfl⟩
  have p0 : 1 ≤ P := by rw [← hP]; exact pow_pos1 D
  have p1 : P ≤ 16777216 := by rw [← hP, pow_cast]; have := pow_le24 hD2; omega
  have HLN := Lib.hid (lows_len D f)
  go_enter Try.func4, Try.ntmps4
  go_wp2_with fail
  refine (lawLow_any d 24 w (by omega) (by omega)).mono ?_
  rw [hE]
  rintro e w' ⟨rfl, rfl⟩
  clear hE hE1
  go_wp2
  go_loopw [7, 8] (fun v i wr => ∃ k : Nat, k ≤ f.length ∧ i = .int .i64 k ∧ XRow w.heap.size w (lows D f) k v wr) (fun _ i _ => f.length - (intOf i).toNat)
  case atStart => exact ⟨0, by omega, rfl, World.ownsRow_nil _ _ _ _, Below.refl _ _, Nat.le_refl _, Nat.le_refl _⟩
  case round =>
    obtain ⟨k, hk, rfl, hr⟩ := hrel
    have HR := Lib.hid hr
    clear hr
    by_cases hlt : k < f.length
    · obtain ⟨a, rfl, hab, ha⟩ := (HF.out.below HR.out.2.1) k hlt
      have hba : (a.add k).block < w.heap.size := by rw [add_block]; exact hab
      have HV : Hid (low (f.getD k 0) P = (lows D f).getD k 0) := by show low (f.getD k 0) P = _; rw [lows_at hlt, hP]
      generalize f.getD k 0 = X at ha HV
      have hown := HR.out.1
      have hsz : w.heap.size ≤ wr.heap.size := HR.out.2.2.2
      have hi1 : (k : Int) < (f.length : Int) := by omega
      have hi0' : (0 : Int) ≤ (k : Int) := Int.natCast_nonneg _
      have na : u7.ownBlock ≠ some (a.add k).block := fun e => by have := (hown.lt _ e).1; omega
      have HOW := Lib.hid hown
      clear hown
      have sp : IntKind.i64.wrap P = P := IntWalk.i64_in _ (by omega)
      go_wp2_with fail
      go_region_held3 (fun w' => w'.cell? (a.add k) = some (.int .i64 X))
        (first
          | go_keep
          | (rw [hgrow.cell_far _ (by simp; omega) (Ne.symm na)]; assumption))
        (first
          | (go_at_call 25; refine (lawLow_any X P _ p0 (by omega)).mono ?_; rintro e w' ⟨rfl, rfl⟩)
          | (refine step_append_lies _ (by rfl) _ _ _ (by rfl) w.heap.size 3 i0 _ 1 8 Try.underlying22 hi0 hz0 hz1 hz2 rfl (by omega) u7 k _ (by rfl) ((HOW.out.alloc _).drew) ⟨wr.heap.size, 0, none⟩ 1 1 [.int .i64 (low X P)] (by rfl) (by rfl) (World.news_of_block (cs := #[.int .i64 (low X P)]) (t := 3) (fr := (0, 0)) (heap_alloc_new wr _)) (by simp [Value.oneCell']) (by omega) (by unfold maxLen; omega) (by omega) (by simp; omega) (wr.heap.size + 1) (by simp) ?_; intro gg cap w3 hown3 hgrow hat hlt'))
      have hB : Below w.heap.size wr w3 := (((Below.refl _ wr).alloc hsz _).drew).grown hgrow (by simp; omega) (fun j hj => (HOW.out.lt j hj).1)
      have HN := Lib.hid (HR.out.more (by rw [HLN.out]; exact hlt) HV.out hown3 hB)
      clear hown3 hgrow hat hlt' na HOW hB
      go_wp2
      go_roundw
      case rel => exact ⟨k + 1, by omega, by go_num, HN.out⟩
      case measure => simp [intOf]; omega
    · obtain ⟨Ax, cx, rfl, hmx⟩ := HR.out.all (by rw [HLN.out]; omega)
      have X0 := Lib.hid hmx
      have B0 := Lib.hid HR.out.2.1
      clear hmx HR
      rw [HLN.out]
      have HFL := Lib.hid (lows_fit D f)
      generalize lows D f = L at HLN X0 HFL
      obtain ⟨ND, hnd, hnd1⟩ : ∃ ND : Nat, (D : Int) * (f.length : Int) = (ND : Int) ∧ ND = D * f.length := ⟨D * f.length, by simp, rfl⟩
      have nd1 : ND ≤ 4800 := by
        have : D * f.length ≤ 24 * 200 := Nat.mul_le_mul hD2 h1
        omega
      obtain ⟨NP, hNP, hNP1⟩ : ∃ NP : Nat, (int (packN D (nat L))).length = NP ∧ NP = (ND + 7) / 8 := ⟨_, rfl, by rw [int_len, packN_len, nat_len, HLN.out, hnd1]⟩
      have HNP := Lib.hid hNP
      have np2 : (NP : Int) = ((ND : Int) + 7) / 8 := by omega
      have np3 : NP ≤ 4000 := by omega
      clear hnd1 hNP hNP1
      go_wp2_with fail
      refine (pack_any D Ax cx _ L wr HLN.out.symm X0.out.read (by rw [HLN.out]; omega)).mono ?_
      rw [packI_yes hD1 hD2 HFL.out]
      rintro e w2 ⟨Ap, cp, rfl, ho, hb⟩
      have P2 := Lib.hid (Mine.of ho hb)
      have X2 := Lib.hid (X0.out.next hb)
      have B2 := Lib.hid (below_next B0.out hb)
      clear ho hb X0 B0
      rw [HNP.out]
      go_wp2_with fail
      refine (unpack_any D Ap cp _ (int (packN D (nat L))) w2 HNP.out.symm P2.out.read (by rw [HNP.out]; exact np3) (fit_packed D (nat L))).mono ?_
      rw [unpackI_yes _ hD1 hD2, nat_int]
      have HUT := Lib.hid (back_take (by omega : 0 < D) HFL.out HLN.out)
      have HUZ := Lib.hid (fun k h1 h2 => back_zero (D := D) (L := L) (k := k) (by omega) HFL.out h1 h2)
      have hul := back_len L (by omega : 0 < D)
      rw [HLN.out] at hul
      have hul2 : (int (unpackN D (packN D (nat L)))).length ≤ 32000 := by
        rw [int_len, unpackN_len, ← int_len, HNP.out]
        exact many_le np3
      generalize int (unpackN D (packN D (nat L))) = U at HUT HUZ hul hul2
      rintro e w3 ⟨Au, cu, rfl, ho, hb⟩
      have U3 := Lib.hid (Mine.of ho hb)
      have X3 := Lib.hid (X2.out.next hb)
      have B3 := Lib.hid (below_next B2.out hb)
      have hcu := own_cap ho
      clear ho hb X2 B2 P2
      obtain ⟨NU, hNU⟩ : ∃ NU : Nat, U.length = NU := ⟨_, rfl⟩
      rw [hNU] at hul hul2 hcu ⊢
      have HNU := Lib.hid hNU
      clear hNU
      have s1 : (f.length : Int) ≤ (cu : Int) := by omega
      go_wp2_with fail
      have HTL : Hid ((U.take f.length).length = f.length) := by show (U.take f.length).length = f.length; rw [HUT.out, HLN.out]
      refine (same_eq Au Ax cu cx _ _ (U.take f.length) L w3 HUT.out HTL.out.symm HTL.out.symm (by rw [HTL.out]; omega) (U3.out.read.take f.length) X3.out.read).mono ?_
      rintro e w4 ⟨rfl, hb⟩
      have U4 := Lib.hid (U3.out.next hb).read
      have B4 := Lib.hid (below_next B3.out hb)
      clear hb U3 X3 B3 HTL HUT
      obtain ⟨Q, hQ, hQ1⟩ : ∃ Q : Nat, (g.length : Int) / (D : Int) = (Q : Int) ∧ Q = g.length / D := ⟨g.length / D, by simp, rfl⟩
      have q1 : Q ≤ 200 := by rw [hQ1]; exact Nat.le_trans (Nat.div_le_self _ _) h2
      obtain ⟨M, hM, hM1⟩ : ∃ M : Nat, (Q : Int) * (D : Int) = (M : Int) ∧ M = Q * D := ⟨Q * D, by simp, rfl⟩
      have m1 : M ≤ g.length := by rw [hM1, hQ1]; exact Nat.div_mul_le_self _ _
      have HMM : Hid (M % D = 0) := by show M % D = 0; rw [hM1]; exact Nat.mul_mod_left _ _
      clear hQ1 hM1
      have s2 : (M : Int) ≤ (c' : Int) := by omega
      go_wp2
      go_loop [11] (fun i => ∃ k : Nat, f.length ≤ k ∧ k ≤ NU ∧ i = .int .i64 k) (fun i => NU - (intOf i).toNat)
      case atStart => exact ⟨f.length, Nat.le_refl _, hul, rfl⟩
      case round =>
        obtain ⟨j, hj, hj2, rfl⟩ := hrel
        by_cases hjl : j < NU
        · obtain ⟨a, rfl, _, ha⟩ := U4.out j (by rw [HNU.out]; exact hjl)
          rw [HUZ.out j (by rw [HLN.out]; exact hj) (by rw [HNU.out]; exact hjl)] at ha
          go_wp2
          go_round
          case rel => exact ⟨j + 1, by omega, by omega, by go_num⟩
          case measure => simp [intOf]; omega
        · clear U4 HUZ
          have HTM : Hid ((g.take M).length = M) := by show (g.take M).length = M; rw [List.length_take]; omega
          have G4 := Lib.hid (((HG.out.below B4.out).mono B4.out.size).take M)
          have F4 := Lib.hid (fit_take HFIT.out M)
          generalize g.take M = g' at HTM G4 F4
          go_wp2_with fail
          refine (unpack_any D A' c' _ g' w4 HTM.out.symm G4.out (by rw [HTM.out]; omega) F4.out).mono ?_
          rw [unpackI_yes _ hD1 hD2]
          rintro e w5 ⟨Av, cv, rfl, ho, hb⟩
          have V5 := Lib.hid (Mine.of ho hb)
          have G5 := Lib.hid (has_next G4.out hb)
          have B5 := Lib.hid (below_next B4.out hb)
          clear ho hb G4 B4
          go_wp2_with fail
          refine (pack_any D Av cv _ _ w5 rfl V5.out.read (by rw [int_len, unpackN_len, nat_len, HTM.out]; exact Nat.le_trans (Nat.div_le_self _ _) (by omega))).mono ?_
          rw [packI_yes hD1 hD2 (fit_unpacked D (nat g')), bytes_back (by omega) F4.out (by rw [HTM.out]; exact HMM.out)]
          rintro e w6 ⟨Aw, cw, rfl, ho, hb⟩
          have W6 := Lib.hid (Mine.of ho hb)
          have G6 := Lib.hid (has_next G5.out hb)
          have B6 := Lib.hid (below_next B5.out hb)
          clear ho hb G5 B5 V5
          go_wp2_with fail
          refine (sameB_eq Aw A' cw c' _ _ g' g' w6 rfl rfl HTM.out.symm (by rw [HTM.out]; omega) W6.out.read G6.out).mono ?_
          rintro e w7 ⟨rfl, hb⟩
          have B7 := Lib.hid (below_next B6.out hb)
          clear hb W6 G6 B6
          go_wp2_with fail
          refine (awake_any w7).mono ?_
          rintro e w8 ⟨rfl, hb⟩
          have B8 := Lib.hid (below_next B7.out hb)
          clear hb B7
          go_wp2
          go_ret
          exact ⟨rfl, B8.out⟩
end Go.Proofs.Ytkonbkmjodfcoaa
