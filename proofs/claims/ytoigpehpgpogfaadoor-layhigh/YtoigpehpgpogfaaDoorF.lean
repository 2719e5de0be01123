/- Contract: numbers that are packed by the program, walked. -/
import Derived.Test.YtoigpehpgpogfaaDoorE
namespace Go.Proofs.YtoigpehpgpogfaaDoor
open Go.RowKit Slices Go.Proofs.YtoigpehpgpogfaaDoor.Bit

/-- what a number's bits come to, laid behind those that are held -/
theorem put_facts {h x a D : Nat} (hh : h < 2 ^ a) (hx : x < 2 ^ D) (ha : a ≤ 24) (hD : D ≤ 24) : bits .or .i64 (h : Int) (wrap64 ((x : Int) * 2 ^ a)) = ((h ||| (x <<< a) : Nat) : Int) := by
  have p1 : 2 ^ a ≤ 16777216 := pow_le24 ha
  have p2 : 2 ^ D ≤ 16777216 := pow_le24 hD
  have p3 : x * 2 ^ a ≤ 16777216 * 16777216 := Nat.mul_le_mul (by omega) p1
  rw [shl_cast]
  rw [← Nat.shiftLeft_eq] at p3
  generalize x <<< a = y at p3
  rw [IntWalk.wrap64_in _ (by omega)]
  exact or_nat (by omega) (by omega)

set_option maxRecDepth 100000 in
set_option maxHeartbeats 2000000 in
theorem pack_yes (D : Nat) (A : Option Addr) (c : Nat) (l : List Int) (w : World) (h : Has .i64 w w.heap.size A l) (hn : l.length ≤ 4000) (hD1 : 1 ≤ D) (hD : D ≤ 24) (hf : Fit D l) :
    Calls Tryd.prog 36 #[.int .i64 D, .slice A l.length c] w (Res .u8 5 w (int (packN D (nat l)))) := by
  obtain ⟨i0, hi0, hz0, hz1, hz2⟩ := info_parts Tryd.info5
  have H := Lib.hid h
  have HF := Lib.hid hf
  clear h hf
  obtain ⟨ND, hnd⟩ : ∃ ND : Nat, (l.length : Int) * (D : Int) = (ND : Int) := ⟨l.length * D, by simp⟩
  have nd1 : ND ≤ 96000 := by
    have : l.length * D ≤ 4000 * 24 := Nat.mul_le_mul hn hD
    have : ((l.length * D : Nat) : Int) = (ND : Int) := by rw [← hnd]; simp
    omega
  go_enter Tryd.func36, Tryd.ntmps36
  go_wp2_with (first
    | (go_at_call 57; refine (isPacked_yes _ _ (by omega) (by omega)).mono ?_; rintro e w' ⟨rfl, rfl⟩)
    | (go_at_call 58; refine (allFit_yes D _ _ _ l _ H.out hn hD HF.out).mono ?_; rintro e w' ⟨rfl, rfl⟩)
    | (at_make; refine wpList_make_own _ rfl _ _ 23 rfl w.heap.size 5 i0 (.int .u8 0) 1 Tryd.underlying23 hi0 hz0 hz1 _ _ _ ((ND + 7) / 8) rfl rfl (by omega) (by rw [hz2]; omega) (by unfold maxLen; omega) (Nat.le_refl _) ?_; intro w1 hown hgrow; have HO := Lib.hid hown; clear hown; have HG := Lib.hid hgrow; clear hgrow))
  have hst : PRow w D (nat l) 0 (.slice (some ⟨w.heap.size, 0, none⟩) 0 ((ND + 7) / 8)) w1 := ⟨HO.out, (Below.refl _ _).grown HG.out (Nat.le_refl _) (by simp)⟩
  have HST := Lib.hid hst
  clear hst HO HG hnd
  have hxl := nat_len l
  have HXL := Lib.hid hxl
  clear hxl
  go_loopw [5, 6, 7, 29] (fun v he ha i wr => ∃ k T m a q : Nat, k ≤ l.length ∧ a ≤ 7 ∧ i = .int .i64 k ∧ he = .int .i64 q ∧ ha = .int .i64 a ∧ Pk D (nat l) k T m a q ∧ PRow w D (nat l) m v wr) (fun _ _ _ i _ => l.length - (intOf i).toNat)
  case atStart => exact ⟨0, 0, 0, 0, 0, Nat.zero_le _, by omega, rfl, rfl, rfl, ⟨rfl, rfl, rfl⟩, HST.out⟩
  case round =>
    obtain ⟨k, T, m, a, q, hk, ha7, rfl, rfl, rfl, hpk, hpr⟩ := hrel
    have HPK := Lib.hid hpk
    have HPR := Lib.hid hpr
    clear hpk hpr HST
    by_cases hlt : k < l.length
    · obtain ⟨ad, rfl, hab, hac⟩ := (H.out.below HPR.out.2) k hlt
      obtain ⟨x, hx, hx2, hxn⟩ := HF.out.at hlt
      rw [hx] at hac
      have HOR := Lib.hid (put_facts HPK.out.lt hx2 (by omega) hD)
      have HP2 := Lib.hid (HPK.out.put hxn hx2)
      generalize q ||| (x <<< a) = q' at HOR HP2
      clear hx hxn hx2
      go_wp2
      go_loopw [5, 6, 7] (fun v he ha wr => ∃ m a q : Nat, a ≤ 31 ∧ he = .int .i64 q ∧ ha = .int .i64 a ∧ Pk D (nat l) (k + 1) (T + D) m a q ∧ PRow w D (nat l) m v wr) (fun _ _ ha _ => (intOf ha).toNat)
      case atStart => exact ⟨m, a + D, q', by omega, congrArg _ HOR.out, by go_num, HP2.out, HPR.out⟩
      case round =>
        obtain ⟨m', a', q'', ha', rfl, rfl, hpk, hpr⟩ := hrel
        have HPK' := Lib.hid hpk
        have HPR' := Lib.hid hpr
        clear hpk hpr
        have hq : q'' < 2 ^ 31 := HPK'.out.lt' ha'
        by_cases h8 : 8 ≤ a'
        · have hsz : w.heap.size ≤ wr.heap.size := HPR'.out.2.size
          obtain ⟨hpk2, hby⟩ := HPK'.out.take h8
          have hm : m' < (D * (nat l).length + 7) / 8 := HPK'.out.room (by have := HXL.out; omega) h8
          have hm2 : (D * (nat l).length + 7) / 8 ≤ 12001 := by
            have : D * (nat l).length ≤ 24 * 4000 := Nat.mul_le_mul hD (by have := HXL.out; omega)
            omega
          have HM := Lib.hid hm
          have HPK2 := Lib.hid hpk2
          have HBY := Lib.hid hby
          have hmm : m' ≤ 12001 := by omega
          clear hpk2 hby hm hm2
          go_wp2_with (at_builtin; refine wpList_append_own _ rfl _ _ 23 rfl w.heap.size 5 i0 (.int .u8 0) 1 1 Tryd.underlying23 hi0 hz0 hz1 hz2 rfl (by decide) _ m' _ rfl (HPR'.out.1.alloc _) ⟨wr.heap.size, 0, none⟩ 1 1 [.int .u8 ((q'' : Int) % 256)] rfl rfl (World.news_of_block (cs := #[.int .u8 ((q'' : Int) % 256)]) (t := 5) (fr := (0, 0)) (heap_alloc_new wr _)) (by simp [Value.oneCell']) (by unfold maxLen; omega) (by omega) (by simp; omega) ?_; intro v1 w1 hown hgrow hnil; clear hnil; have HO1 := Lib.hid hown; have HG1 := Lib.hid hgrow; clear hown hgrow)
          have hB : Below w.heap.size wr w1 := ((Below.refl _ wr).alloc hsz _).grown HG1.out (by simp; omega) (fun j hj => (HPR'.out.1.lt j hj).1)
          have HPN := Lib.hid (HPR'.out.more HM.out (by rw [← HBY.out]; simp) HO1.out hB)
          clear hB HO1 HG1
          go_roundw
          case rel => exact ⟨m' + 1, a' - 8, q'' / 256, by omega, rfl, by go_num, HPK2.out, HPN.out⟩
          case measure => simp [intOf]; omega
        · go_wp2
          go_roundw
          case rel => exact ⟨k + 1, T + D, m', a', q'', by omega, by omega, by go_num, rfl, rfl, HPK'.out, HPR'.out⟩
          case measure => simp [intOf]; omega
    · have hkl : k = (nat l).length := by have := HXL.out; omega
      have HKL := Lib.hid hkl
      have hq : q < 2 ^ 31 := HPK.out.lt' (by omega)
      clear hkl
      by_cases h0 : 0 < a
      · have hsz : w.heap.size ≤ wr.heap.size := HPR.out.2.size
        have hpk := HPK.out
        rw [HKL.out] at hpk
        obtain ⟨hm, hm1, hby⟩ := hpk.last (by omega) (by omega) h0
        have hm2 : (D * (nat l).length + 7) / 8 ≤ 12001 := by
          have : D * (nat l).length ≤ 24 * 4000 := Nat.mul_le_mul hD (by have := HXL.out; omega)
          omega
        have HM := Lib.hid hm
        have HM1 := Lib.hid hm1
        have HBY := Lib.hid hby
        have hmm : m ≤ 12001 := by omega
        clear hpk hm hm1 hby hm2
        go_wp2_with (at_builtin; refine wpList_append_own _ rfl _ _ 23 rfl w.heap.size 5 i0 (.int .u8 0) 1 1 Tryd.underlying23 hi0 hz0 hz1 hz2 rfl (by decide) _ m _ rfl (HPR.out.1.alloc _) ⟨wr.heap.size, 0, none⟩ 1 1 [.int .u8 ((q : Int) % 256)] rfl rfl (World.news_of_block (cs := #[.int .u8 ((q : Int) % 256)]) (t := 5) (fr := (0, 0)) (heap_alloc_new wr _)) (by simp [Value.oneCell']) (by unfold maxLen; omega) (by omega) (by simp; omega) ?_; intro v1 w1 hown hgrow hnil; clear hnil; have HO1 := Lib.hid hown; have HG1 := Lib.hid hgrow; clear hown hgrow)
        have hB : Below w.heap.size wr w1 := ((Below.refl _ wr).alloc hsz _).grown HG1.out (by simp; omega) (fun j hj => (HPR.out.1.lt j hj).1)
        have HPN := Lib.hid (HPR.out.more HM.out (by rw [← HBY.out]; simp) HO1.out hB)
        clear hB HO1 HG1
        go_ret
        have := HPN.out
        unfold PRow at this
        rw [pack_all HM1.out] at this
        exact res_of this.1 this.2
      · have hpk := HPK.out
        rw [HKL.out] at hpk
        have HM := Lib.hid (hpk.none (by omega))
        clear hpk
        go_wp2
        go_ret
        have := HPR.out
        unfold PRow at this
        rw [pack_all HM.out] at this
        exact res_of this.1 this.2

set_option maxHeartbeats 400000 in
theorem pack_wide (d : Int) (A : Option Addr) (c n : Nat) (w : World) (h : ¬ (1 ≤ d ∧ d ≤ 24)) :
    Calls Tryd.prog 36 #[.int .i64 d, .slice A n c] w fun e w' => e = .returned (.slice none 0 0) ∧ w = w' := by
  go_enter Tryd.func36, Tryd.ntmps36
  go_wp2_with (first
    | (go_at_call 57; refine (isPacked_no _ _ h).mono ?_; rintro e w' ⟨rfl, rfl⟩))
  go_ret
  exact ⟨rfl, rfl⟩
set_option maxHeartbeats 400000 in
theorem pack_bad (D : Nat) (A : Option Addr) (c : Nat) (l : List Int) (w : World) (h : Has .i64 w w.heap.size A l) (hn : l.length ≤ 4000) (hD1 : 1 ≤ D) (hD : D ≤ 24) (hf : ¬ Fit D l) :
    Calls Tryd.prog 36 #[.int .i64 D, .slice A l.length c] w fun e w' => e = .returned (.slice none 0 0) ∧ w = w' := by
  have H := Lib.hid h
  have HF := Lib.hid hf
  clear h hf
  go_enter Tryd.func36, Tryd.ntmps36
  go_wp2_with (first
    | (go_at_call 57; refine (isPacked_yes _ _ (by omega) (by omega)).mono ?_; rintro e w' ⟨rfl, rfl⟩)
    | (go_at_call 58; refine (allFit_no D _ _ _ l _ H.out hn hD HF.out).mono ?_; rintro e w' ⟨rfl, rfl⟩))
  go_ret
  exact ⟨rfl, rfl⟩

theorem pack_any (d : Int) (A : Option Addr) (c n : Nat) (l : List Int) (w : World) (hl : n = l.length) (h : Has .i64 w w.heap.size A l) (hn : l.length ≤ 4000) :
    Calls Tryd.prog 36 #[.int .i64 d, .slice A n c] w (Res .u8 5 w (packI d l)) := by
  subst hl
  by_cases hd : 1 ≤ d ∧ d ≤ 24
  · obtain ⟨D, rfl⟩ := Int.eq_ofNat_of_zero_le (show 0 ≤ d by omega)
    by_cases hf : Fit D l
    · rw [packI_yes (by omega) (by omega) hf]
      exact pack_yes D A c l w h hn (by omega) (by omega) hf
    · rw [packI_no (d := (D : Int)) (xs := l) fun hh => hf hh.2.2]
      exact (pack_bad D A c l w h hn (by omega) (by omega) hf).mono fun e w' ⟨h1, h2⟩ => res_nil h1 (by rw [← h2]; exact Below.refl _ _)
  · rw [packI_no fun hh => hd ⟨hh.1, hh.2.1⟩]
    exact (pack_wide d A c _ w hd).mono fun e w' ⟨h1, h2⟩ => res_nil h1 (by rw [← h2]; exact Below.refl _ _)
end Go.Proofs.YtoigpehpgpogfaaDoor
