/- The law BitsOnes, walked. -/
import Derived.Test.YtkonbkmjodfcoaaN
import Derived.Maps.AppendAt
namespace Go.Proofs.Ytkonbkmjodfcoaa
open Go.RowKit Slices Go.Proofs.Ytkonbkmjodfcoaa.Bit

/-- a list's bits, one by one -/
def onesI (D : Nat) (L : List Int) : List Int := int (ones D (nat L))
theorem onesI_len (D : Nat) (L : List Int) : (onesI D L).length = D * L.length := by rw [onesI, int_len, ones_len, nat_len]
theorem onesI_at {D : Nat} {L : List Int} {p : Nat} (h : p < D * L.length) : (onesI D L).getD p 0 = (((strm D (nat L) p).toNat : Nat) : Int) := by
  rw [onesI, int_at]
  have : p < D * (nat L).length := by rw [nat_len]; exact h
  simp [ones, List.getD_eq_getElem?_getD, List.getElem?_range this]
theorem onesI_fit (D : Nat) (L : List Int) : Fit 1 (onesI D L) := fun i hi => by
  rw [onesI_len] at hi
  rw [onesI_at hi]
  have := toNat_lt (strm D (nat L) i)
  exact ⟨by omega, by omega⟩
theorem ones_pack {D : Nat} (hD : 0 < D) (L : List Int) : int (packN 1 (nat (onesI D L))) = int (packN D (nat L)) := by rw [onesI, nat_int, pack_ones hD]
theorem one_bit {L : List Int} {D i k : Nat} {y : Int} (hf : Fit D L) (hi : i < L.length) (hy : L.getD i 0 = y) (hk : k < D) : y / 2 ^ k % 2 = (onesI D L).getD (D * i + k) 0 := by
  obtain ⟨x, hx, _, hn⟩ := hf.at hi
  have hlt : D * i + k < D * L.length := by
    have : D * (i + 1) ≤ D * L.length := Nat.mul_le_mul_left _ (by omega)
    rw [Nat.mul_succ] at this; omega
  rw [onesI_at hlt, ← bit_num hn hk rfl, ← hy, hx]

/-- two rows of the call's own that do not share a block -/
def Apart (v u : Value) : Prop := v.ownBlock = none ∨ v.ownBlock ≠ u.ownBlock
theorem Apart.symm {v u : Value} (h : Apart v u) : Apart u v := by
  unfold Apart at *
  rcases hu : u.ownBlock with _ | b
  · exact .inl rfl
  · rcases h with h | h
    · right; rw [h]; simp
    · right; rw [hu] at h; exact fun e => h e.symm
theorem apart_nil (u : Value) : Apart (.slice none 0 0) u := .inl rfl
/-- the first k numbers of f, and the first t of o, are made -/
def Two (w : World) (f o : List Int) (k t : Nat) (v u : Value) (wr : World) : Prop := XRow w.heap.size w f k v wr ∧ XRow w.heap.size w o t u wr ∧ Apart v u
theorem Two.drewN {w wr : World} {f o : List Int} {k t : Nat} {v u : Value} (h : Two w f o k t v u wr) (n : Nat) : Two w f o k t v u (wr.drewN n) :=
  ⟨⟨h.1.1, below_drewN h.1.2.1 n, h.1.2.2.1, h.1.2.2.2⟩, ⟨h.2.1.1, below_drewN h.2.1.2.1 n, h.2.1.2.2.1, h.2.1.2.2.2⟩, h.2.2⟩
theorem Two.swap {w wr : World} {f o : List Int} {k t : Nat} {v u : Value} (h : Two w f o k t v u wr) : Two w o f t k u v wr := ⟨h.2.1, h.1, h.2.2.symm⟩
/-- one more of the first -/
theorem Two.more {w wr w1 : World} {f o : List Int} {k t : Nat} {v u v1 : Value} {y : Int} {ob : Obj} (h : Two w f o k t v u wr) (hk : k < f.length) (hy : y = f.getD k 0)
    (ho : w1.ownsRow w.heap.size 3 1 v1 (k + 1) (ints .i64 (f.take k) ++ [.int .i64 y])) (hg : (wr.alloc ob).grownBy w1 v.ownBlock) (hat : v1.ownBlock = v.ownBlock ∨ v1.ownBlock = some (wr.alloc ob).heap.size) : Two w f o (k + 1) t v1 u w1 := by
  have hsz : w.heap.size ≤ wr.heap.size := h.1.2.2.2
  have hB : Below w.heap.size wr w1 := ((Below.refl _ wr).alloc hsz _).grown hg (by simp; omega) (fun j hj => (h.1.1.lt j hj).1)
  refine ⟨h.1.more hk hy ho hB, ⟨(h.2.1.1.alloc ob).kept hg h.2.2.symm, h.2.1.2.1.trans (hB.mono (Nat.le_refl _)), h.2.1.2.2.1, Nat.le_trans hsz hB.size⟩, ?_⟩
  rcases hat with e | e
  · unfold Apart; rw [e]; exact h.2.2
  · right
    rw [e]
    intro e2
    have := (h.2.1.1.lt _ e2.symm).2
    simp at this
    omega

set_option maxRecDepth 100000 in
set_option maxHeartbeats 4000000 in
theorem ones_small (d : Int) (A : Option Addr) (c : Nat) (f : List Int) (x y : Int) (w : World) (hf : Has .i64 w w.heap.size A f) (h1 : f.length ≤ 60) :
    Calls Try.prog 7 #[.int .i64 d, .slice A f.length c, .int .i64 x, .int .i64 y] w fun e w' => e = .returned (.bool true) ∧ Below w.heap.size w w' := by
  obtain ⟨i0, hi0, hz0, hz1, hz2⟩ := info_parts Try.info3
  have HF := Lib.hid hf
  clear hf
  obtain ⟨E, hE⟩ := Int.eq_ofNat_of_zero_le (low_lo d (n := 24) (by omega))
  have hE1 := low_hi d (n := 24) (by omega)
  rw [hE] at hE1
  obtain ⟨D, hD⟩ : ∃ D : Nat, D = 1 + E := ⟨_, rfl⟩
  have hD1 : 1 ≤ D := by omega
  have hD2 : D ≤ 24 := by omega
  have hDI : (1 : Int) + (E : Int) = (D : Int) := by omega
  clear hD
  obtain ⟨P, hP⟩ : ∃ P : Int, (2 : Int) ^ D = P := ⟨_, rfl⟩
  have p0 : 1 ≤ P := by rw [← hP]; exact pow_pos1 D
  have p1 : P ≤ 16777216 := by rw [← hP, pow_cast]; have := pow_le24 hD2; omega
  have HLN := Lib.hid (lows_len D f)
  have HLF := Lib.hid (lows_fit D f)
  have HON := Lib.hid ((onesI_len D (lows D f)).trans (by rw [lows_len]))
  go_enter Try.func7, Try.ntmps7
  go_wp2_with fail
  refine (lawLow_any d 24 w (by omega) (by omega)).mono ?_
  rw [hE]
  rintro e w' ⟨rfl, rfl⟩
  clear hE hE1
  go_wp2
  go_loopw [9, 10, 11] (fun v u i wr => ∃ k : Nat, k ≤ f.length ∧ i = .int .i64 k ∧ Two w (lows D f) (onesI D (lows D f)) k (D * k) v u wr) (fun _ _ i _ => f.length - (intOf i).toNat)
  case atStart => exact ⟨0, by omega, rfl, ⟨World.ownsRow_nil _ _ _ _, Below.refl _ _, Nat.le_refl _, Nat.le_refl _⟩, ⟨World.ownsRow_nil _ _ _ _, Below.refl _ _, Nat.le_refl _, Nat.le_refl _⟩, apart_nil _⟩
  case round =>
    obtain ⟨k, hk, rfl, hr⟩ := hrel
    have HR := Lib.hid hr
    clear hr
    by_cases hlt : k < f.length
    · obtain ⟨a, rfl, hab, ha⟩ := (HF.out.below HR.out.1.2.1) k hlt
      have HV : Hid (low (f.getD k 0) P = (lows D f).getD k 0) := by show low (f.getD k 0) P = _; rw [lows_at hlt, hP]
      generalize f.getD k 0 = X at ha HV
      have hi1 : (k : Int) < (f.length : Int) := by omega
      have sp : IntKind.i64.wrap P = P := IntWalk.i64_in _ (by omega)
      go_wp2_with fail
      go_quiet ((go_at_call 25; exact quiet_eq (lawLow_any X P _ p0 (by omega))))
      have R2 := Lib.hid (HR.out.drewN nq)
      generalize wr.drewN nq = w2 at R2
      clear HR ha
      obtain ⟨Y, hY⟩ : ∃ Y, low X P = Y := ⟨_, rfl⟩
      have y0 : 0 ≤ Y := by rw [← hY]; exact low_lo _ p0
      have y1 : Y < P := by rw [← hY]; exact low_hi _ p0
      rw [hY] at HV ⊢
      clear hY
      have HKL : Hid (k < (lows D f).length) := by show k < (lows D f).length; rw [HLN.out]; exact hlt
      have HBT := Lib.hid (fun t (ht : t < D) => one_bit HLF.out HKL.out HV.out.symm ht)
      have hsz : w.heap.size ≤ w2.heap.size := R2.out.1.2.2.2
      go_wp2_with (at_builtin; refine wpList_append_own_at _ rfl _ _ 22 rfl w.heap.size 3 i0 (.int .i64 0) 1 8 Try.underlying22 hi0 hz0 hz1 hz2 rfl (by decide) _ k _ rfl (R2.out.1.1.alloc _) ⟨w2.heap.size, 0, none⟩ 1 1 [.int .i64 Y] rfl rfl (World.news_of_block (cs := #[.int .i64 Y]) (t := 3) (fr := (0, 0)) (heap_alloc_new w2 _)) (by simp [Value.oneCell']) (by unfold maxLen; omega) (by omega) (by simp; omega) ?_; intro v1 w3 hown hgrow hnil hat; clear hnil; have R3 := Lib.hid (R2.out.more HKL.out HV.out hown hgrow hat); clear hown hgrow hat)
      clear R2 hsz
      have hS2 : D * k + D ≤ D * f.length := by
        have : D * (k + 1) ≤ D * f.length := Nat.mul_le_mul_left _ (by omega)
        rwa [Nat.mul_succ] at this
      have hS3 : D * f.length ≤ 1440 := Nat.mul_le_mul hD2 h1
      obtain ⟨S, hS⟩ : ∃ S, D * k = S := ⟨_, rfl⟩
      have HS := Lib.hid hS
      have hSD : S + D ≤ 1440 := by omega
      have HSN : Hid (S + D ≤ (onesI D (lows D f)).length) := by show S + D ≤ (onesI D (lows D f)).length; rw [HON.out, ← hS]; exact hS2
      have R4 : Hid (Two w (lows D f) (onesI D (lows D f)) (k + 1) (S + 0) v1 u10 w3) := by show Two w _ _ (k + 1) (S + 0) v1 u10 w3; rw [Nat.add_zero, ← HS.out]; exact R3.out
      have HB2 : Hid (∀ t, t < D → Y / 2 ^ t % 2 = (onesI D (lows D f)).getD (S + t) 0) := by show ∀ t, t < D → _; rw [← HS.out]; exact HBT.out
      clear R3 HBT hS hS2 hS3 HV HKL
      go_wp2
      go_loopw [10, 13] (fun u i wj => ∃ t : Nat, t ≤ D ∧ i = .int .i64 t ∧ Two w (lows D f) (onesI D (lows D f)) (k + 1) (S + t) v1 u wj) (fun _ i _ => D - (intOf i).toNat)
      case atStart => exact ⟨0, by omega, rfl, R4.out⟩
      case round =>
        obtain ⟨t, ht, rfl, hr⟩ := hrel
        have R5 := Lib.hid hr
        clear hr R4
        by_cases htD : t < D
        · obtain ⟨q, hq⟩ : ∃ q, Y / 2 ^ t = q := ⟨_, rfl⟩
          have HZ := Lib.hid (HB2.out t htD)
          rw [hq] at HZ
          have hb := and_one q
          have hsz : w.heap.size ≤ wr.heap.size := R5.out.1.2.2.2
          have HST : Hid (S + t < (onesI D (lows D f)).length) := by show S + t < (onesI D (lows D f)).length; have := HSN.out; omega
          go_wp2_with (at_builtin; refine wpList_append_own_at _ rfl _ _ 22 rfl w.heap.size 3 i0 (.int .i64 0) 1 8 Try.underlying22 hi0 hz0 hz1 hz2 rfl (by decide) _ (S + t) _ rfl (R5.out.2.1.1.alloc _) ⟨wr.heap.size, 0, none⟩ 1 1 [.int .i64 (q % 2)] rfl rfl (World.news_of_block (cs := #[.int .i64 (q % 2)]) (t := 3) (fr := (0, 0)) (heap_alloc_new wr _)) (by simp [Value.oneCell']) (by unfold maxLen; omega) (by omega) (by simp; omega) ?_; intro v2 w4 hown hgrow hnil hat; clear hnil; have R6 := Lib.hid (R5.out.swap.more HST.out HZ.out hown hgrow hat).swap; clear hown hgrow hat)
          go_roundw
          case rel => exact ⟨t + 1, by omega, by go_num, R6.out⟩
          case measure => simp [intOf]; omega
        · have HE : Hid (S + t = D * (k + 1)) := by show S + t = D * (k + 1); rw [Nat.mul_succ, HS.out]; omega
          go_wp2
          go_roundw
          case rel => exact ⟨k + 1, by omega, by go_num, by rw [← HE.out]; exact R5.out⟩
          case measure => simp [intOf]; omega
    · have HKE : Hid (k = f.length) := by show k = f.length; omega
      have HR2 := Lib.hid HR.out
      clear HR
      obtain ⟨Ax, cx, rfl, hmx⟩ := HR2.out.1.all (by rw [HLN.out, HKE.out])
      obtain ⟨Ao, co, rfl, hmo⟩ := HR2.out.2.1.all (by rw [HON.out, HKE.out])
      have X0 := Lib.hid hmx
      have O0 := Lib.hid hmo
      have B0 := Lib.hid HR2.out.1.2.1
      clear hmx hmo HR2
      have HOF := Lib.hid (onesI_fit D (lows D f))
      have HPO := Lib.hid (ones_pack (D := D) (by omega) (lows D f))
      rw [HLN.out, HON.out]
      generalize onesI D (lows D f) = O at HON O0 HOF HPO
      generalize lows D f = L at HLN X0 HLF HPO
      have hS3 : D * f.length ≤ 1440 := Nat.mul_le_mul hD2 h1
      have HPL : Hid ((int (packN D (nat L))).length ≤ 181) := by
        show (int (packN D (nat L))).length ≤ 181
        rw [int_len, packN_len, nat_len, HLN.out]; omega
      have HPF := Lib.hid (fit_packed D (nat L))
      obtain ⟨NO, hNO⟩ : ∃ NO, D * f.length = NO := ⟨_, rfl⟩
      rw [hNO] at HON hS3 ⊢
      clear hNO
      go_wp2_with fail
      refine (pack_any D Ax cx _ L wr HLN.out.symm X0.out.read (by rw [HLN.out]; omega)).mono ?_
      rw [packI_yes hD1 hD2 HLF.out]
      generalize int (packN D (nat L)) = p at HPO HPL HPF
      rintro e w2 ⟨Aa, ca, rfl, ho, hb⟩
      have A2 := Lib.hid (Mine.of ho hb)
      have O2 := Lib.hid (O0.out.next hb)
      have B2 := Lib.hid (below_next B0.out hb)
      clear ho hb X0 O0 B0 HLF
      go_wp2_with fail
      refine (pack_any 1 Ao co _ O w2 HON.out.symm O2.out.read (by rw [HON.out]; omega)).mono ?_
      rw [show packI 1 O = p from (packI_yes (d := 1) (by omega) (by omega) HOF.out).trans HPO.out]
      rintro e w3 ⟨Ab, cb, rfl, ho, hb⟩
      have A3 := Lib.hid (A2.out.next hb)
      have D3 := Lib.hid (Mine.of ho hb)
      have B3 := Lib.hid (below_next B2.out hb)
      clear ho hb A2 O2 B2 HOF HPO HF
      obtain ⟨W, hW⟩ := Int.eq_ofNat_of_zero_le (low_lo y (n := 63) (by omega))
      have hW1 := low_hi y (n := 63) (by omega)
      rw [hW] at hW1
      obtain ⟨D', hD'⟩ := Int.eq_ofNat_of_zero_le (low_lo D (n := (W : Int) + 1) (by omega))
      have hD1' := low_hi D (n := (W : Int) + 1) (by omega)
      rw [hD'] at hD1'
      have HLL : Hid (lowI D' (lowI W x) = lowI D' x) := by show lowI D' (lowI W x) = lowI D' x; rw [lowI_yes _ (by omega), lowI_yes _ (by omega), lowI_yes _ (by omega), low_low x (by omega)]
      have hx0 : 0 ≤ lowI W x := by rw [lowI_yes _ (by omega)]; exact Int.emod_nonneg _ (by have := pow_pos1 W; omega)
      go_wp2_with fail
      refine (lawLow_any y 63 w3 (by omega) (by omega)).mono ?_
      rw [hW]
      rintro e w' ⟨rfl, rfl⟩
      clear hW
      go_wp2_with fail
      refine (lawLow_any D ((W : Int) + 1) w3 (by omega) (by omega)).mono ?_
      rw [hD']
      rintro e w' ⟨rfl, rfl⟩
      clear hD'
      go_wp2_with fail
      refine (sameB_eq Aa Ab ca cb _ _ p p w3 rfl rfl rfl (by have := HPL.out; omega) A3.out.read D3.out.read).mono ?_
      rintro e w4 ⟨rfl, hb⟩
      have A4 := Lib.hid (A3.out.next hb)
      have B4 := Lib.hid (below_next B3.out hb)
      clear hb A3 B3 D3
      go_wp2_with fail
      refine (unpack_any 1 Aa ca _ p w4 rfl A4.out.read (by have := HPL.out; omega) HPF.out).mono ?_
      rw [show unpackI 1 p = int (unpackN 1 (nat p)) from unpackI_yes (d := 1) p (by omega) (by omega)]
      rintro e w5 ⟨Au, cu, rfl, ho, hb⟩
      have A5 := Lib.hid (A4.out.next hb)
      have U5 := Lib.hid (Mine.of ho hb)
      have B5 := Lib.hid (below_next B4.out hb)
      clear ho hb A4 B4
      go_wp2_with fail
      refine (pack_any 1 Au cu _ _ w5 rfl U5.out.read (by rw [int_len, unpackN_len, nat_len]; have := HPL.out; omega)).mono ?_
      rw [show packI 1 (int (unpackN 1 (nat p))) = p from (packI_yes (d := 1) (by omega) (by omega) (fit_unpacked 1 (nat p))).trans (bytes_back (by omega) HPF.out (Nat.mod_one _))]
      rintro e w6 ⟨Aq, cq, rfl, ho, hb⟩
      have A6 := Lib.hid (A5.out.next hb)
      have Q6 := Lib.hid (Mine.of ho hb)
      have B6 := Lib.hid (below_next B5.out hb)
      clear ho hb A5 B5 U5
      go_wp2_with fail
      refine (sameB_eq Aq Aa cq ca _ _ p p w6 rfl rfl rfl (by have := HPL.out; omega) Q6.out.read A6.out.read).mono ?_
      rintro e w7 ⟨rfl, hb⟩
      have B7 := Lib.hid (below_next B6.out hb)
      clear hb A6 Q6 B6
      go_wp2_with fail
      refine (low_any W x w7).mono ?_
      rintro e w' ⟨rfl, rfl⟩
      go_wp2_with fail
      refine (low_any D' (lowI W x) w7).mono ?_
      rw [HLL.out]
      rintro e w' ⟨rfl, rfl⟩
      go_wp2_with fail
      refine (low_any D' x w7).mono ?_
      rintro e w' ⟨rfl, rfl⟩
      clear HLL
      generalize lowI D' x = z1
      go_wp2_with fail
      refine (low_any W x w7).mono ?_
      rintro e w' ⟨rfl, rfl⟩
      generalize lowI W x = z2 at hx0
      go_wp2_with fail
      refine (awake_any w7).mono ?_
      rintro e w8 ⟨rfl, hb⟩
      have B8 := Lib.hid (below_next B7.out hb)
      clear hb B7
      go_wp2
      go_ret
      exact ⟨rfl, B8.out⟩
end Go.Proofs.Ytkonbkmjodfcoaa
