/- Contract: numbers that are packed by the document's own code, walked. -/
import Derived.Test.YtoigpehpgpogfaaDoorI
namespace Go.Proofs.YtoigpehpgpogfaaDoor
open Go.RowKit Slices Go.Proofs.YtoigpehpgpogfaaDoor.Bit

/-- the bytes into which the first T bits are laid -/
def WRow (w : World) (f : Nat → Bool) (n T : Nat) (wr : World) : Prop :=
  wr.ownsRow w.heap.size 5 1 (.slice (some ⟨w.heap.size, 0, none⟩) n n) n (ints .u8 (int (wrote f n T))) ∧ Below w.heap.size w wr
theorem WRow.drewN {w wr : World} {f : Nat → Bool} {n T : Nat} (h : WRow w f n T wr) (m : Nat) : WRow w f n T (wr.drewN m) := ⟨h.1, below_drewN h.2 m⟩
theorem WRow.put {w wr : World} {f : Nat → Bool} {n T Q R : Nat} (h : WRow w f n T wr) (hT : T = 8 * Q + R) (hR : R < 8) (hQ : Q < n) {z : Int} (hz : z = (((((wrote f n T).getD Q 0) ||| ((f T).toNat <<< R) : Nat)) : Int)) :
    WRow w f n (T + 1) (wr.setCell ⟨w.heap.size, Q, none⟩ (.int .u8 z)) := by
  refine ⟨?_, h.2.setCell (Nat.le_refl _) _⟩
  rw [← wrote_next f hT hR hQ, ← hz]
  exact own_set h.1 Q z
theorem or_bit {o b R : Nat} (ho : o < 256) (hb : b ≤ 1) (hR : R < 8) : bits .or .u8 (o : Int) (IntKind.u8.wrap (IntKind.i64.wrap ((b : Int) * 2 ^ R))) = ((o ||| (b <<< R) : Nat) : Int) := by
  have p : 2 ^ R ≤ 128 := Nat.pow_le_pow_right (n := 2) (by decide) (by omega : R ≤ 7)
  have p3 : b * 2 ^ R ≤ 1 * 128 := Nat.mul_le_mul hb p
  rw [shl_cast]
  rw [← Nat.shiftLeft_eq] at p3
  generalize b <<< R = y at p3
  rw [IntWalk.i64_in _ (by omega), wraps_u8 _ (by omega) (by omega)]
  exact or_byte ho (by omega)
/-- all numbers ahead of the i-th are of D bits -/
def FitTo (D : Nat) (l : List Int) (i : Nat) : Prop := ∀ j, j < i → 0 ≤ l.getD j 0 ∧ l.getD j 0 < 2 ^ D
theorem FitTo.next {D : Nat} {l : List Int} {i : Nat} (h : FitTo D l i) (h0 : 0 ≤ l.getD i 0) (h1 : l.getD i 0 < 2 ^ D) : FitTo D l (i + 1) := fun j hj => by
  by_cases e : j = i
  · subst e; exact ⟨h0, h1⟩
  · exact h j (by omega)
theorem bit_num {l : List Int} {D i k x T : Nat} (hx : (nat l).getD i 0 = x) (hk : k < D) (hT : T = D * i + k) : (x : Int) / 2 ^ k % 2 = (((strm D (nat l) T).toNat : Nat) : Int) := by
  have e : (x : Int) / 2 ^ k % 2 = ((x / 2 ^ k % 2 : Nat) : Int) := by simp
  rw [e, bit_mod, hT, Nat.mul_comm, strm_at _ _ hk, hx]

set_option maxRecDepth 100000 in
set_option maxHeartbeats 2000000 in
theorem refPack_in (D : Nat) (A : Option Addr) (c : Nat) (l : List Int) (w : World) (h : Has .i64 w w.heap.size A l) (hn : l.length ≤ 4000) (hD1 : 1 ≤ D) (hD : D ≤ 24) :
    Calls Tryd.prog 47 #[.int .i64 D, .slice A l.length c] w (Res .u8 5 w (packI D l)) := by
  obtain ⟨i0, hi0, hz0, hz1, hz2⟩ := info_parts Tryd.info5
  have H := Lib.hid h
  clear h
  obtain ⟨ND, hnd, hnd1⟩ : ∃ ND : Nat, (D : Int) * (l.length : Int) = (ND : Int) ∧ ND = D * l.length := ⟨D * l.length, by simp, rfl⟩
  have nd1 : ND ≤ 96000 := by
    have : D * l.length ≤ 24 * 4000 := Nat.mul_le_mul hD hn
    omega
  have HND := Lib.hid hnd1
  clear hnd1
  obtain ⟨P, hP⟩ : ∃ P : Int, (2 : Int) ^ D = P := ⟨_, rfl⟩
  have p0 : 1 ≤ P := by rw [← hP, pow_cast]; have := Nat.two_pow_pos D; omega
  have p1 : P ≤ 16777216 := by rw [← hP, pow_cast]; have := pow_le24 hD; omega
  obtain ⟨N, hN⟩ : ∃ N : Nat, (ND + 7) / 8 = N := ⟨_, rfl⟩
  go_enter Tryd.func47, Tryd.ntmps47
  go_wp2_with (first
    | (at_make; refine wpList_make_full _ rfl _ _ 23 rfl w.heap.size 5 i0 (.int .u8 0) 1 Tryd.underlying23 hi0 hz0 hz1 _ _ _ _ N rfl rfl (by omega) (by omega) (by rw [hz2]; omega) (by unfold maxLen; omega) (Nat.le_refl _) ?_; intro w1 hown hgrow; rw [made_ints] at hown; have HO := Lib.hid hown; clear hown; have HG := Lib.hid hgrow; clear hgrow))
  have hst : WRow w (strm D (nat l)) N 0 w1 := ⟨by rw [wrote_zero]; exact HO.out, (Below.refl _ _).grown HG.out (Nat.le_refl _) (by simp)⟩
  have HST := Lib.hid hst
  clear hst HO HG hnd
  go_loopw [6] (fun i wr => ∃ k : Nat, k ≤ l.length ∧ i = .int .i64 k ∧ FitTo D l k ∧ WRow w (strm D (nat l)) N (D * k) wr) (fun i _ => l.length - (intOf i).toNat)
  case atStart => exact ⟨0, Nat.zero_le _, rfl, fun j hj => by omega, HST.out⟩
  case round =>
    obtain ⟨k, hk, rfl, hft, hwr⟩ := hrel
    have HFT := Lib.hid hft
    have HWR := Lib.hid hwr
    clear hft hwr HST
    by_cases hlt : k < l.length
    · obtain ⟨a, rfl, hab, hw0⟩ := H.out k hlt
      have hab2 : (a.add k).block < w.heap.size := by rw [add_block]; exact hab
      have ha := (HWR.out.2.cell hab2).trans hw0
      have HW0 := Lib.hid hw0
      clear hw0
      have hlt2 : (k : Int) < (l.length : Int) := by omega
      by_cases x0 : l.getD k 0 < 0
      · have HNF : Hid (¬ Fit D l) := by show ¬ Fit D l; intro hf; have := (hf k hlt).1; omega
        generalize l.getD k 0 = x at ha x0
        have b1 : decide (x < 0) = true := by rw [decide_eq_true_iff]; exact x0
        go_wp2
        go_quiet (fail)
        go_wp2
        go_ret
        rw [packI_no (d := (D : Int)) (xs := l) fun hh => HNF.out hh.2.2]
        exact res_nil rfl (below_drewN HWR.out.2 _)
      · by_cases x1 : P ≤ l.getD k 0
        · have HNF : Hid (¬ Fit D l) := by show ¬ Fit D l; intro hf; have := (hf k hlt).2; omega
          generalize l.getD k 0 = x at ha x0 x1
          have b1 : decide (x < 0) = false := by rw [decide_eq_false_iff_not]; exact x0
          have b2 : decide (P ≤ x) = true := by rw [decide_eq_true_iff]; exact x1
          go_wp2
          go_quiet (fail)
          go_wp2
          go_ret
          rw [packI_no (d := (D : Int)) (xs := l) fun hh => HNF.out hh.2.2]
          exact res_nil rfl (below_drewN HWR.out.2 _)
        · have HF1 := Lib.hid (HFT.out.next (i := k) (by omega) (by rw [hP]; omega))
          obtain ⟨x, hx, hxn⟩ : ∃ x : Nat, l.getD k 0 = (x : Int) ∧ (nat l).getD k 0 = x := ⟨(l.getD k 0).toNat, by omega, nat_at l k⟩
          rw [hx] at ha x0 x1 HW0
          have HXN := Lib.hid hxn
          clear hx hxn
          have b1 : decide ((x : Int) < 0) = false := by rw [decide_eq_false_iff_not]; exact x0
          have b2 : decide (P ≤ (x : Int)) = false := by rw [decide_eq_false_iff_not]; exact x1
          have x2 : x < 16777216 := by omega
          obtain ⟨S, hS, hS1⟩ : ∃ S : Nat, (D : Int) * (k : Int) = (S : Int) ∧ S = D * k := ⟨D * k, by simp, rfl⟩
          have hS2 : S + D ≤ ND := by
            have : D * (k + 1) ≤ D * l.length := Nat.mul_le_mul_left _ (by omega)
            rw [HND.out, hS1]; rw [Nat.mul_succ] at this; exact this
          have HS1 := Lib.hid hS1
          have HST : Hid (WRow w (strm D (nat l)) N (S + 0) wr) := by show WRow w (strm D (nat l)) N (S + 0) wr; rw [Nat.add_zero, HS1.out]; exact HWR.out
          clear hS1 HWR
          go_wp2
          go_quiet (fail)
          go_wp2
          go_loopw [7, 8] (fun i u wj => ∃ n : Nat, n ≤ D ∧ i = .int .i64 n ∧ WRow w (strm D (nat l)) N (S + n) wj) (fun i _ _ => D - (intOf i).toNat)
          case atStart => exact ⟨0, Nat.zero_le _, rfl, HST.out.drewN _⟩
          case round =>
            obtain ⟨n, hn', rfl, hwr⟩ := hrel
            have HWR := Lib.hid hwr
            clear hwr HST
            by_cases hnD : n < D
            · obtain ⟨Q, R, hR, hQ⟩ : ∃ Q R : Nat, R < 8 ∧ S + n = 8 * Q + R := ⟨(S + n) / 8, (S + n) % 8, Nat.mod_lt _ (by omega), by omega⟩
              have hQN : Q < N := by omega
              have hq : ((S : Int) + (n : Int)) / 8 = (Q : Int) := by omega
              have hr : ((S : Int) + (n : Int)) % 8 = (R : Int) := by omega
              have hc := own_cell HWR.out.1 hQN
              have hfz := HWR.out.1.frozenAt Q
              rw [int_at] at hc
              have ho := wrote_lt (strm D (nat l)) N (S + n) Q
              have hb := toNat_lt (strm D (nat l) (S + n))
              have HBN := Lib.hid (bit_num HXN.out hnD (by rw [← HS1.out]))
              have HOR := Lib.hid (or_bit ho hb hR)
              have hc2 := (HWR.out.2.cell hab2).trans HW0.out
              have HPN := Lib.hid (fun z hz => (HWR.out.drewN 1).put hQ hR hQN (z := z) hz)
              generalize (wrote (strm D (nat l)) N (S + n)).getD Q 0 = o at hc ho HOR HPN
              generalize (strm D (nat l) (S + n)).toNat = b at hb HBN HOR HPN
              obtain ⟨y, hy⟩ : ∃ y, (x : Int) / 2 ^ n = y := ⟨_, rfl⟩
              rw [hy] at HBN
              have hb2 : bits .and .i64 y 1 = (b : Int) := (and_one y).trans HBN.out
              have hqN : (Q : Int) < (N : Int) := by omega
              have s1 : IntKind.i64.wrap (((S : Int) + (n : Int)).tdiv 8) = (Q : Int) := by rw [Int.tdiv_eq_ediv_of_nonneg (by omega), hq]; exact IntWalk.i64_in _ (by omega)
              have s2 : ((S : Int) + (n : Int)).tmod 8 = (R : Int) := by rw [Int.tmod_eq_emod_of_nonneg (by omega), hr]
              go_wp2_with fail
              refine wp_region_still_tail 21 (by kernel_rfl) (by kernel_rfl) ?_
              change wpStill _ _ (World.drew _) (fun a' => wpList _ _ _ _ a' (World.drew _)) _ _
              generalize hW : World.drew wr = w2
              have hcw : w2.cell? ⟨w.heap.size, Q, none⟩ = some (.int .u8 (o : Int)) := by rw [← hW]; exact hc
              have hcw2 : w2.cell? (a.add k) = some (.int .i64 (x : Int)) := by rw [← hW]; exact hc2
              have hfw : w2.frozen? ⟨w.heap.size, Q, none⟩ = false := by rw [← hW]; exact hfz
              have HPN2 : Hid (∀ z : Int, z = ((o ||| (b <<< R) : Nat) : Int) → WRow w (strm D (nat l)) N (S + (n + 1)) (w2.setCell ⟨w.heap.size, Q, none⟩ (.int .u8 z))) := by show ∀ z : Int, _ → _; rw [← hW]; exact HPN.out
              clear hW hc hc2 hfz HPN HWR
              simp only [List.take_succ_cons, List.take_zero, List.drop_succ_cons, List.drop_zero]
              repeat still_step
              refine wpStill_nil ?_
              generalize hz : bits BinOp.or IntKind.u8 (o : Int) (IntKind.u8.wrap (IntKind.i64.wrap ((b : Int) * 2 ^ R))) = z
              have HZ : Hid (z = ((o ||| (b <<< R) : Nat) : Int)) := by show z = _; rw [← hz]; exact HOR.out
              clear hz HOR
              go_wp2
              go_roundw
              case rel => exact ⟨n + 1, by omega, by go_num, HPN2.out _ HZ.out⟩
              case measure => simp [intOf]; omega
            · have hne : S + n = D * (k + 1) := by rw [Nat.mul_succ, ← HS1.out]; omega
              have HNE := Lib.hid hne
              clear hne
              go_wp2
              go_roundw
              case rel => exact ⟨k + 1, by omega, by go_num, HF1.out, by rw [← HNE.out]; exact HWR.out⟩
              case measure => simp [intOf]; omega
    · have HE : Hid (k = l.length) := by show k = l.length; omega
      go_wp2
      go_ret
      have hfit : Fit D l := by have := HFT.out; rw [HE.out] at this; exact this
      rw [packI_yes hD1 hD hfit]
      have := HWR.out
      unfold WRow at this
      rw [wrote_all (by omega) (nat l) (by rw [nat_len, ← HND.out, hN]) (by rw [nat_len, HE.out])] at this
      exact res_of this.1 this.2

set_option maxHeartbeats 400000 in
theorem refPack_wide (d : Int) (A : Option Addr) (c n : Nat) (w : World) (h : ¬ (1 ≤ d ∧ d ≤ 24)) :
    Calls Tryd.prog 47 #[.int .i64 d, .slice A n c] w fun e w' => e = .returned (.slice none 0 0) ∧ w = w' := by
  by_cases h1 : d < 1
  · clear h
    go_enter Tryd.func47, Tryd.ntmps47
    go_wp2
    go_ret
    exact ⟨rfl, rfl⟩
  · have h2 : 24 < d := by omega
    clear h
    go_enter Tryd.func47, Tryd.ntmps47
    go_wp2
    go_ret
    exact ⟨rfl, rfl⟩
theorem refPack_any (d : Int) (A : Option Addr) (c n : Nat) (l : List Int) (w : World) (hl : n = l.length) (h : Has .i64 w w.heap.size A l) (hn : l.length ≤ 4000) :
    Calls Tryd.prog 47 #[.int .i64 d, .slice A n c] w (Res .u8 5 w (packI d l)) := by
  subst hl
  by_cases hd : 1 ≤ d ∧ d ≤ 24
  · obtain ⟨D, rfl⟩ := Int.eq_ofNat_of_zero_le (show 0 ≤ d by omega)
    exact refPack_in D A c l w h hn (by omega) (by omega)
  · rw [packI_no fun hh => hd ⟨hh.1, hh.2.1⟩]
    exact (refPack_wide d A c _ w hd).mono fun e w' ⟨h1, h2⟩ => res_nil h1 (by rw [← h2]; exact Below.refl _ _)
end Go.Proofs.YtoigpehpgpogfaaDoor
