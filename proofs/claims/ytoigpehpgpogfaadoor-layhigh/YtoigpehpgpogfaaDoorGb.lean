/- Contract: numbers that are unpacked by the program, walked. -/
import Derived.Test.YtoigpehpgpogfaaDoorGa
namespace Go.Proofs.YtoigpehpgpogfaaDoor
open Go.RowKit Slices Go.Proofs.YtoigpehpgpogfaaDoor.Bit

set_option maxRecDepth 100000 in
set_option maxHeartbeats 2000000 in
theorem unpack_yes (D : Nat) (A : Option Addr) (c : Nat) (l : List Int) (w : World) (h : Has .u8 w w.heap.size A l) (hn : l.length ≤ 4000) (hD1 : 1 ≤ D) (hD : D ≤ 24) (hf : Fit 8 l) :
    Calls Tryd.prog 43 #[.int .i64 D, .slice A l.length c] w (Res .i64 3 w (int (unpackN D (nat l)))) := by
  obtain ⟨i0, hi0, hz0, hz1, hz2⟩ := info_parts Tryd.info3
  have H := Lib.hid h
  have HF := Lib.hid hf
  clear h hf
  obtain ⟨Q, hQ⟩ : ∃ Q : Nat, (l.length : Int) * 8 / (D : Int) = (Q : Int) := ⟨l.length * 8 / D, by simp⟩
  have hQ1 : Q ≤ 32000 := by
    have h1 : l.length * 8 / D ≤ 32000 := Nat.le_trans (Nat.div_le_self _ _) (by omega)
    have h2 : ((l.length * 8 / D : Nat) : Int) = (Q : Int) := by rw [← hQ]; simp
    omega
  obtain ⟨P, hP⟩ : ∃ P : Int, (2 : Int) ^ D = P := ⟨_, rfl⟩
  have HP := Lib.hid hP
  clear hP
  go_enter Tryd.func43, Tryd.ntmps43
  go_wp2_with (first
    | (go_at_call 57; refine (isPacked_yes _ _ (by omega) (by omega)).mono ?_; rintro e w' ⟨rfl, rfl⟩)
    | (at_make; refine wpList_make_own _ rfl _ _ 22 rfl w.heap.size 3 i0 (.int .i64 0) 1 Tryd.underlying22 hi0 hz0 hz1 _ _ _ Q rfl rfl (by omega) (by rw [hz2]; omega) (by unfold maxLen; omega) (Nat.le_refl _) ?_; intro w1 hown hgrow; have HO := Lib.hid hown; clear hown; have HG := Lib.hid hgrow; clear hgrow))
  have hst : URow w D (nat l) 0 (.slice (some ⟨w.heap.size, 0, none⟩) 0 Q) w1 := ⟨HO.out, (Below.refl _ _).grown HG.out (Nat.le_refl _) (by simp)⟩
  have HST := Lib.hid hst
  clear hst HO HG hQ
  have hxl := nat_len l
  have HXL := Lib.hid hxl
  clear hxl
  go_loopw [5, 6, 7, 21] (fun v he ha i wr => ∃ k T m a q : Nat, k ≤ l.length ∧ a ≤ 23 ∧ a < D ∧ i = .int .i64 k ∧ he = .int .i64 q ∧ ha = .int .i64 a ∧ Uk D (nat l) k T m a q ∧ URow w D (nat l) m v wr) (fun _ _ _ i _ => l.length - (intOf i).toNat)
  case atStart => exact ⟨0, 0, 0, 0, 0, Nat.zero_le _, by omega, by omega, rfl, rfl, rfl, ⟨rfl, by omega, rfl⟩, HST.out⟩
  case round =>
    obtain ⟨k, T, m, a, q, hk, ha7, haD, rfl, rfl, rfl, hpk, hpr⟩ := hrel
    have HPK := Lib.hid hpk
    have HPR := Lib.hid hpr
    clear hpk hpr HST
    by_cases hlt : k < l.length
    · obtain ⟨ad, rfl, hab, hac⟩ := (H.out.below HPR.out.2) k hlt
      obtain ⟨x, hx, hx2, hxn⟩ := HF.out.at hlt
      rw [hx] at hac
      have HOR := Lib.hid (put_facts (HPK.out.lt' (Nat.le_refl _)) hx2 (by omega) (by omega))
      have HP2 := Lib.hid (HPK.out.put hxn hx2)
      generalize q ||| (x <<< a) = q' at HOR HP2
      clear hx hxn
      go_wp2
      go_loopw [5, 6, 7] (fun v he ha wr => ∃ m a q : Nat, a ≤ 31 ∧ he = .int .i64 q ∧ ha = .int .i64 a ∧ Uk D (nat l) (k + 1) (T + 8) m a q ∧ URow w D (nat l) m v wr) (fun _ _ ha _ => (intOf ha).toNat)
      case atStart => exact ⟨m, a + 8, q', by omega, congrArg _ HOR.out, by go_num, HP2.out, HPR.out⟩
      case round =>
        obtain ⟨m', a', q'', ha', rfl, rfl, hpk, hpr⟩ := hrel
        have HPK' := Lib.hid hpk
        have HPR' := Lib.hid hpr
        clear hpk hpr
        have hq : q'' < 2 ^ 31 := HPK'.out.lt' ha'
        by_cases h8 : D ≤ a'
        · have hsz : w.heap.size ≤ wr.heap.size := HPR'.out.2.size
          obtain ⟨hpk2, hby⟩ := HPK'.out.take h8
          have hm : m' < 8 * (nat l).length / D := HPK'.out.room (by have := HXL.out; omega) (by omega) h8
          have hm2 : 8 * (nat l).length / D ≤ 32000 := many_le (by have := HXL.out; omega)
          have HM := Lib.hid hm
          have HPK2 := Lib.hid hpk2
          have HBY := Lib.hid hby
          have hmm : m' ≤ 32000 := by omega
          have HAND := Lib.hid (and_held q'' hD HP.out)
          have HDIV : Hid ((q'' : Int) / 2 ^ D = ((q'' / 2 ^ D : Nat) : Int)) := by show (q'' : Int) / 2 ^ D = ((q'' / 2 ^ D : Nat) : Int); simp
          clear hpk2 hby hm hm2
          obtain ⟨z, hz⟩ : ∃ z, bits BinOp.and IntKind.i64 (q'' : Int) (P - 1) = z := ⟨_, rfl⟩
          have HZ := Lib.hid hz
          go_wp2_with (first
            | (go_at_call 61; refine (lowest_as D P _ (by omega) HP.out).mono ?_; rintro e w' ⟨rfl, rfl⟩)
            | (at_builtin; refine wpList_append_own _ rfl _ _ 22 rfl w.heap.size 3 i0 (.int .i64 0) 1 8 Tryd.underlying22 hi0 hz0 hz1 hz2 rfl (by decide) _ m' _ rfl (HPR'.out.1.alloc _) ⟨wr.heap.size, 0, none⟩ 1 1 [.int .i64 z] rfl rfl (World.news_of_block (cs := #[.int .i64 z]) (t := 3) (fr := (0, 0)) (heap_alloc_new wr _)) (by simp [Value.oneCell']) (by unfold maxLen; omega) (by omega) (by simp; omega) ?_; intro v1 w1 hown hgrow hnil; clear hnil; have HO1 := Lib.hid hown; have HG1 := Lib.hid hgrow; clear hown hgrow))
          have hB : Below w.heap.size wr w1 := ((Below.refl _ wr).alloc hsz _).grown HG1.out (by simp; omega) (fun j hj => (HPR'.out.1.lt j hj).1)
          have HPN := Lib.hid (HPR'.out.more HM.out (by rw [← HBY.out, ← HZ.out]; exact HAND.out) HO1.out hB)
          clear hB HO1 HG1
          go_roundw
          case rel => exact ⟨m' + 1, a' - D, q'' / 2 ^ D, by omega, congrArg _ HDIV.out, by go_num, HPK2.out, HPN.out⟩
          case measure => simp [intOf]; omega
        · go_wp2
          go_roundw
          case rel => exact ⟨k + 1, T + 8, m', a', q'', by omega, by omega, by omega, by go_num, rfl, rfl, HPK'.out, HPR'.out⟩
          case measure => simp [intOf]; omega
    · have hkl : k = (nat l).length := by have := HXL.out; omega
      have HKL := Lib.hid hkl
      clear hkl
      have hpk := HPK.out
      rw [HKL.out] at hpk
      have HM := Lib.hid (hpk.last (by omega) haD)
      clear hpk
      go_wp2
      go_ret
      have := HPR.out
      unfold URow at this
      rw [unpack_all HM.out] at this
      exact res_of this.1 this.2

set_option maxHeartbeats 400000 in
theorem unpack_wide (d : Int) (A : Option Addr) (c n : Nat) (w : World) (h : ¬ (1 ≤ d ∧ d ≤ 24)) :
    Calls Tryd.prog 43 #[.int .i64 d, .slice A n c] w fun e w' => e = .returned (.slice none 0 0) ∧ w = w' := by
  go_enter Tryd.func43, Tryd.ntmps43
  go_wp2_with (first
    | (go_at_call 57; refine (isPacked_no _ _ h).mono ?_; rintro e w' ⟨rfl, rfl⟩))
  go_ret
  exact ⟨rfl, rfl⟩

theorem unpack_any (d : Int) (A : Option Addr) (c n : Nat) (l : List Int) (w : World) (hl : n = l.length) (h : Has .u8 w w.heap.size A l) (hn : l.length ≤ 4000) (hf : Fit 8 l) :
    Calls Tryd.prog 43 #[.int .i64 d, .slice A n c] w (Res .i64 3 w (unpackI d l)) := by
  subst hl
  by_cases hd : 1 ≤ d ∧ d ≤ 24
  · obtain ⟨D, rfl⟩ := Int.eq_ofNat_of_zero_le (show 0 ≤ d by omega)
    rw [unpackI_yes l (by omega) (by omega)]
    exact unpack_yes D A c l w h hn (by omega) (by omega) hf
  · rw [unpackI_no l hd]
    exact (unpack_wide d A c _ w hd).mono fun e w' ⟨h1, h2⟩ => res_nil h1 (by rw [← h2]; exact Below.refl _ _)
end Go.Proofs.YtoigpehpgpogfaaDoor
