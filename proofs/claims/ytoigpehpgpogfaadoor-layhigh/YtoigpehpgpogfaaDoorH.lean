/- Contracts: the document's own bits of bytes, and numbers unpacked by it. -/
import Derived.Test.YtoigpehpgpogfaaDoorGa
namespace Go.Proofs.YtoigpehpgpogfaaDoor
open Go.RowKit Slices Go.Proofs.YtoigpehpgpogfaaDoor.Bit

theorem bit_byte {l : List Int} {K Q R x : Nat} (hK : K = 8 * Q + R) (hR : R < 8) (hx : (nat l).getD Q 0 = x) : ((x : Int) / 2 ^ R) % 2 = (((strm 8 (nat l) K).toNat : Nat) : Int) := by
  have e : (x : Int) / 2 ^ R % 2 = ((x / 2 ^ R % 2 : Nat) : Int) := by simp
  rw [e, bit_mod, hK, show 8 * Q + R = Q * 8 + R by omega, strm_at _ _ hR, hx]

set_option maxHeartbeats 400000 in
theorem refBit_any (K : Nat) (A : Option Addr) (c B : Nat) (l : List Int) (w : World) (h : Has .u8 w B A l) (hn : l.length ≤ 4000) (hf : Fit 8 l) (hK : K < 8 * l.length) :
    Calls Tryd.prog 62 #[.slice A l.length c, .int .i64 K] w fun e w' => e = .returned (.int .i64 (((strm 8 (nat l) K).toNat : Nat) : Int)) ∧ w = w' := by
  obtain ⟨Q, R, hR, hQ⟩ : ∃ Q R : Nat, R < 8 ∧ K = 8 * Q + R := ⟨K / 8, K % 8, Nat.mod_lt _ (by omega), by omega⟩
  have hlt : Q < l.length := by omega
  obtain ⟨a, rfl, _, ha⟩ := h Q hlt
  obtain ⟨x, hx, hx2, hxn⟩ := hf.at hlt
  rw [hx] at ha
  have HE := Lib.hid (bit_byte hQ hR hxn)
  clear hx hxn h hf
  have x2 : x < 256 := hx2
  clear hx2
  have hq : (K : Int) / 8 = (Q : Int) := by omega
  have hr : (K : Int) % 8 = (R : Int) := by omega
  obtain ⟨y, hy⟩ : ∃ y, (x : Int) / 2 ^ R = y := ⟨_, rfl⟩
  rw [hy] at HE
  have hb := and_one y
  clear hQ
  go_enter Tryd.func62, Tryd.ntmps62
  go_wp2
  go_ret
  exact ⟨ret_int HE.out, rfl⟩

theorem held_bit (f : Nat → Bool) (p : Nat) {a : Nat} (ha : a ≤ 24) : bits .or .i64 ((held f p a : Nat) : Int) (wrap64 ((((f (p + a)).toNat : Nat) : Int) * 2 ^ a)) = ((held f p (a + 1) : Nat) : Int) := by
  have hb : (f (p + a)).toNat < 2 ^ 1 := by cases f (p + a) <;> simp
  rw [put_facts (D := 1) (held_lt f p a) hb ha (by omega)]
  congr 1
theorem held_top (f : Nat → Bool) (p : Nat) {a : Nat} (ha : a ≤ 24) : held f p a < 16777216 := Nat.lt_of_lt_of_le (held_lt f p a) (pow_le24 ha)
theorem toNat_lt (b : Bool) : b.toNat ≤ 1 := by cases b <;> simp
/-- as many numbers as there are, and no more -/
theorem whole_yes {n D k : Nat} (hD : 1 ≤ D) (h : (k + 1) * D ≤ 8 * n) : k < 8 * n / D := (Nat.le_div_iff_mul_le (by omega)).mpr h
theorem whole_no {n D k : Nat} (hD : 1 ≤ D) (hk : k ≤ 8 * n / D) (h : ¬ (k + 1) * D ≤ 8 * n) : k = 8 * n / D := by
  apply Classical.byContradiction
  intro hne
  exact h ((Nat.le_div_iff_mul_le (by omega)).mp (by omega))
theorem next_le {n D k : Nat} (hD : D ≤ 24) (hD1 : 1 ≤ D) (hk : k ≤ 8 * n / D) : (k + 1) * D ≤ 8 * n + 24 := by
  have := (Nat.le_div_iff_mul_le (by omega)).mp hk
  rw [Nat.succ_mul]; omega

set_option maxRecDepth 100000 in
set_option maxHeartbeats 2000000 in
theorem refUnpack_yes (D : Nat) (A : Option Addr) (c : Nat) (l : List Int) (w : World) (h : Has .u8 w w.heap.size A l) (hn : l.length ≤ 4000) (hD1 : 1 ≤ D) (hD : D ≤ 24) (hf : Fit 8 l) :
    Calls Tryd.prog 48 #[.int .i64 D, .slice A l.length c] w (Res .i64 3 w (int (unpackN D (nat l)))) := by
  obtain ⟨i0, hi0, hz0, hz1, hz2⟩ := info_parts Tryd.info3
  have H := Lib.hid h
  have HF := Lib.hid hf
  clear h hf
  have HXL := Lib.hid (nat_len l)
  go_enter Tryd.func48, Tryd.ntmps48
  go_wp2
  go_loopw [5, 6] (fun v i wr => ∃ k : Nat, k ≤ 8 * l.length / D ∧ i = .int .i64 k ∧ URow w D (nat l) k v wr) (fun _ i _ => 8 * l.length / D - (intOf i).toNat)
  case atStart => exact ⟨0, Nat.zero_le _, rfl, World.ownsRow_nil _ _ _ _, Below.refl _ _⟩
  case round =>
    obtain ⟨k, hk, rfl, hpr⟩ := hrel
    have HPR := Lib.hid hpr
    clear hpr
    have HK := Lib.hid hk
    have hkk : k ≤ 32000 := Nat.le_trans hk (many_le hn)
    obtain ⟨M, hM, hM1⟩ : ∃ M : Nat, ((k : Int) + 1) * (D : Int) = (M : Int) ∧ M = (k + 1) * D := ⟨(k + 1) * D, by simp, rfl⟩
    have hM2 : M ≤ 32024 := by have := next_le hD hD1 hk; omega
    obtain ⟨S, hS, hS1⟩ : ∃ S : Nat, (k : Int) * (D : Int) = (S : Int) ∧ S = k * D := ⟨k * D, by simp, rfl⟩
    have hSM : S + D = M := by rw [hM1, hS1, Nat.succ_mul]
    have HM1 := Lib.hid hM1
    have HS1 := Lib.hid hS1
    clear hM1 hS1 hk
    by_cases hle : M ≤ 8 * l.length
    · have HLT : Hid (k < 8 * (nat l).length / D) := by show k < 8 * (nat l).length / D; rw [HXL.out]; exact whole_yes hD1 (by rw [← HM1.out]; exact hle)
      have bk : decide ((M : Int) ≤ 8 * (l.length : Int)) = true := by rw [decide_eq_true_iff]; omega
      go_wp2
      go_loop [7, 8] (fun x j => ∃ n : Nat, n ≤ D ∧ j = .int .i64 n ∧ x = .int .i64 ((held (strm 8 (nat l)) S n : Nat) : Int)) (fun _ j => D - (intOf j).toNat)
      case atStart => exact ⟨0, Nat.zero_le _, rfl, rfl⟩
      case round =>
        obtain ⟨n, hn', rfl, rfl⟩ := hrel
        by_cases hlt : n < D
        · have HB := Lib.hid (held_bit (strm 8 (nat l)) S (a := n) (by omega))
          have h1 := toNat_lt (strm 8 (nat l) (S + n))
          go_wp2_with (go_at_call 62; refine (refBit_any (S + n) _ _ w.heap.size l _ (H.out.below HPR.out.2) hn HF.out (by omega)).mono ?_; rintro e w' ⟨rfl, rfl⟩)
          go_round
          case rel => exact ⟨n + 1, by omega, by go_num, congrArg _ HB.out⟩
          case measure => simp [intOf]; omega
        · have hne : n = D := by omega
          have HNE := Lib.hid hne
          clear hne
          have hsz : w.heap.size ≤ wr.heap.size := HPR.out.2.size
          obtain ⟨z, hz⟩ : ∃ z, ((held (strm 8 (nat l)) S n : Nat) : Int) = z := ⟨_, rfl⟩
          have HZ : Hid (z = ((held (strm 8 (nat l)) (k * D) D : Nat) : Int)) := by show z = _; rw [← hz, HNE.out, HS1.out]
          rw [hz]
          clear hz
          go_wp2_with (at_builtin; refine wpList_append_own _ rfl _ _ 22 rfl w.heap.size 3 i0 (.int .i64 0) 1 8 Tryd.underlying22 hi0 hz0 hz1 hz2 rfl (by decide) _ k _ rfl (HPR.out.1.alloc _) ⟨wr.heap.size, 0, none⟩ 1 1 [.int .i64 z] rfl rfl (World.news_of_block (cs := #[.int .i64 z]) (t := 3) (fr := (0, 0)) (heap_alloc_new wr _)) (by simp [Value.oneCell']) (by unfold maxLen; omega) (by omega) (by simp; omega) ?_; intro v1 w1 hown hgrow hnil; clear hnil; have HO1 := Lib.hid hown; have HG1 := Lib.hid hgrow; clear hown hgrow)
          have hB : Below w.heap.size wr w1 := ((Below.refl _ wr).alloc hsz _).grown HG1.out (by simp; omega) (fun j hj => (HPR.out.1.lt j hj).1)
          have HPN := Lib.hid (HPR.out.more HLT.out HZ.out HO1.out hB)
          clear hB HO1 HG1
          have HLT2 : Hid (k < 8 * l.length / D) := by show k < 8 * l.length / D; rw [← HXL.out]; exact HLT.out
          go_roundw
          case rel => exact ⟨k + 1, HLT2.out, by go_num, HPN.out⟩
          case measure => have := HLT2.out; simp [intOf]; omega
    · have bk : decide ((M : Int) ≤ 8 * (l.length : Int)) = false := by rw [decide_eq_false_iff_not]; omega
      have HE : Hid (k = 8 * (nat l).length / D) := by show k = 8 * (nat l).length / D; rw [HXL.out]; exact whole_no hD1 HK.out (by rw [← HM1.out]; exact hle)
      go_wp2
      go_ret
      have := HPR.out
      unfold URow at this
      rw [unpack_all HE.out] at this
      exact res_of this.1 this.2

set_option maxHeartbeats 400000 in
theorem refUnpack_wide (d : Int) (A : Option Addr) (c n : Nat) (w : World) (h : ¬ (1 ≤ d ∧ d ≤ 24)) :
    Calls Tryd.prog 48 #[.int .i64 d, .slice A n c] w fun e w' => e = .returned (.slice none 0 0) ∧ w = w' := by
  by_cases h1 : d < 1
  · clear h
    go_enter Tryd.func48, Tryd.ntmps48
    go_wp2
    go_ret
    exact ⟨rfl, rfl⟩
  · have h2 : 24 < d := by omega
    clear h
    go_enter Tryd.func48, Tryd.ntmps48
    go_wp2
    go_ret
    exact ⟨rfl, rfl⟩
theorem refUnpack_any (d : Int) (A : Option Addr) (c n : Nat) (l : List Int) (w : World) (hl : n = l.length) (h : Has .u8 w w.heap.size A l) (hn : l.length ≤ 4000) (hf : Fit 8 l) :
    Calls Tryd.prog 48 #[.int .i64 d, .slice A n c] w (Res .i64 3 w (unpackI d l)) := by
  subst hl
  by_cases hd : 1 ≤ d ∧ d ≤ 24
  · obtain ⟨D, rfl⟩ := Int.eq_ofNat_of_zero_le (show 0 ≤ d by omega)
    rw [unpackI_yes l (by omega) (by omega)]
    exact refUnpack_yes D A c l w h hn (by omega) (by omega) hf
  · rw [unpackI_no l hd]
    exact (refUnpack_wide d A c _ w hd).mono fun e w' ⟨h1, h2⟩ => res_nil h1 (by rw [← h2]; exact Below.refl _ _)
end Go.Proofs.YtoigpehpgpogfaaDoor
