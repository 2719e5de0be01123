/- Contract: the landed code's Bytes and Text. -/
import Derived.Test.YtmegjjfgiibobaaDoorOc
namespace Go.Proofs.YtmegjjfgiibobaaDoor
open Go.RowKit Slices Go.Proofs.YtmegjjfgiibobaaDoor.Bit

/-- how many bytes the first k parts come to -/
def sumP (ps : List Piece) (k : Nat) : Nat := (partsB (bytesOf (ps.take k))).length
theorem sumP_zero (ps : List Piece) : sumP ps 0 = 0 := rfl
theorem sumP_succ (ps : List Piece) {k : Nat} (h : k < ps.length) : sumP ps (k + 1) = sumP ps k + (8 + ps[k].l.length) := by
  unfold sumP
  rw [bytes_next ps h, List.length_append, List.length_append, be8_len]
  omega
theorem sumP_le (ps : List Piece) (hn : ps.length ≤ 4) (hp : ∀ k (h : k < ps.length), ps[k].l.length ≤ 4000) (k : Nat) : sumP ps k ≤ 17000 := by
  have := partsB_le (N := 4000) (bytesOf (ps.take k)) (fun l hl => by
    unfold bytesOf at hl
    rw [List.mem_map] at hl
    obtain ⟨p, hp1, rfl⟩ := hl
    obtain ⟨i, hi, rfl⟩ := List.mem_iff_getElem.1 (List.mem_of_mem_take hp1)
    exact hp i hi)
  unfold bytesOf at this
  rw [List.length_map, List.length_take] at this
  unfold sumP bytesOf
  have : min k ps.length * (4000 + 8) ≤ 4 * 4008 := Nat.mul_le_mul_right _ (by omega)
  omega

/-- the bytes of the first k parts are laid behind b -/
def ParRow (w : World) (n : Nat) (b : List Int) (ps : List Piece) (k : Nat) (v : Value) (wr : World) : Prop :=
  wr.ownsRow w.heap.size 5 1 v (n + sumP ps k) (ints .u8 (b ++ partsB (bytesOf (ps.take k)))) ∧ Below w.heap.size w wr
set_option maxRecDepth 100000 in
set_option maxHeartbeats 2000000 in
theorem bytes_any (A A' : Option Addr) (n c n' c' : Nat) (b : List Int) (ps : List Piece) (w : World) (h : Has .u8 w w.heap.size A b) (hn : n = b.length) (hA : A = none → n = 0 ∧ c = 0) (hl : n ≤ 10000) (hn' : n' = ps.length) (h' : HasP w w.heap.size A' ps) (hl' : n' ≤ 4) (hp : ∀ k (h : k < ps.length), ps[k].l.length ≤ 4000) :
    Calls Tryd.prog 11 #[.slice A n c, .slice A' n' c'] w (Res .u8 5 w (b ++ partsB (bytesOf ps))) := by
  obtain ⟨i0, hi0, hz0, hz1, hz2⟩ := info_parts Tryd.info5
  have HLE : Hid (∀ k, sumP ps k ≤ 17000) := sumP_le ps (by omega) hp
  have H := Lib.hid h
  have H' := Lib.hid h'
  have HA := Lib.hid hA
  have HN := Lib.hid hn
  have HN' := Lib.hid hn'
  have HP := Lib.hid hp
  clear h h' hA hn hn' hp
  go_enter Tryd.func11, Tryd.ntmps11
  go_wp2
  go_loop [5, 13] (fun v i => ∃ k : Nat, k ≤ n' ∧ v = .int .i64 (sumP ps k : Nat) ∧ i = .int .i64 k) (fun _ i => n' - (intOf i).toNat)
  case atStart => exact ⟨0, by omega, rfl, rfl⟩
  case round =>
    obtain ⟨k, hk, rfl, rfl⟩ := hrel
    by_cases hlt : k < n'
    · have hk2 : k < ps.length := by have := HN'.out; omega
      obtain ⟨⟨a, rfl, _, ha⟩, _, _⟩ := H'.out k hk2
      obtain ⟨N, hN⟩ : ∃ N, N = ps[k].l.length := ⟨_, rfl⟩
      have HSN : Hid (sumP ps (k + 1) = sumP ps k + (8 + N)) := by show _ = _; rw [sumP_succ ps hk2, hN]
      have hpl := HP.out k hk2
      rw [← hN] at ha hpl
      have hs := HLE.out k
      generalize sumP ps k = S at HSN hs
      clear hN
      go_wp2
      go_round
      case rel => exact ⟨k + 1, by omega, by rw [HSN.out]; go_num, by go_num⟩
      case measure => simp [intOf]; omega
    · have e : k = n' := by omega
      subst e
      have hs := HLE.out k
      obtain ⟨S, hS⟩ : ∃ S, S = sumP ps k := ⟨_, rfl⟩
      rw [← hS] at hs ⊢
      clear hS
      go_wp2_with fail
      refine (withRoom_i A n c b _ S rfl _ H.out HN.out HA.out (by omega) (by omega)).mono ?_
      rintro e w1 ⟨A1, c1, rfl, ho, hb⟩
      have HS : Hid (ParRow w n b ps 0 (.slice A1 n c1) w1) := ⟨by simpa [partsB, bytesOf, sumP] using ho, hb⟩
      clear ho hb hs
      go_wp2
      go_loopw [8, 28] (fun v i wr => ∃ j : Nat, j ≤ k ∧ i = .int .i64 j ∧ ParRow w n b ps j v wr) (fun _ i _ => k - (intOf i).toNat)
      case atStart => exact ⟨0, by omega, rfl, HS.out⟩
      case round =>
        obtain ⟨j, hj, rfl, hrow⟩ := hrel
        have HR := Lib.hid hrow
        clear hrow HS
        by_cases hjt : j < k
        · have hk2 : j < ps.length := by have := HN'.out; omega
          obtain ⟨⟨a, rfl, _, ha⟩, hh, hno⟩ := (H'.out.below HR.out.2) j hk2
          have hnx := bytes_next ps hk2
          have hsx := sumP_succ ps hk2
          have hpl := HP.out j hk2
          have hs := HLE.out j
          obtain ⟨PA, hPA⟩ : ∃ x, x = ps[j].A := ⟨_, rfl⟩
          obtain ⟨pc, hpc⟩ : ∃ x, x = ps[j].c := ⟨_, rfl⟩
          obtain ⟨pl, hpl2⟩ : ∃ x, x = ps[j].l := ⟨_, rfl⟩
          obtain ⟨N, hN⟩ : ∃ x, x = pl.length := ⟨_, rfl⟩
          rw [← hpl2, ← hN] at ha hno hsx hpl hnx
          rw [← hPA, ← hpc] at ha hno
          rw [← hPA, ← hpl2] at hh
          have HH := Lib.hid hh
          have HNO := Lib.hid hno
          have HNX := Lib.hid hnx
          have HSX := Lib.hid hsx
          have HNN := Lib.hid hN
          obtain ⟨A2, c2, rfl⟩ := own_slice HR.out.1
          have hsz := HR.out.2.size
          obtain ⟨S', hS'⟩ : ∃ S', S' = sumP ps j := ⟨_, rfl⟩
          have ho2 := HR.out.1
          rw [← hS'] at hs ho2 HSX
          have HO2 := Lib.hid ho2
          rw [← hS']
          clear hPA hpc hpl2 hN hh hno hnx hsx hS' ho2
          go_wp2_with fail
          refine (addNumber_any w.heap.size (n + S') c2 A2 _ N _ HO2.out hsz (by omega)).mono ?_
          rintro e w4 ⟨A3, c3, rfl, ho, hb⟩
          have HO3 := Lib.hid ho
          have HB3 : Hid (Below w.heap.size w w4) := HR.out.2.trans hb
          have HH3 : Hid (Has .u8 w4 w.heap.size PA pl) := HH.out.below hb
          clear ho hb
          go_wp2_with (at_builtin; refine append_any _ rfl _ _ 22 rfl w.heap.size 5 i0 (.int .u8 0) 1 1 Tryd.underlying22 hi0 hz0 hz1 hz2 rfl (by decide) _ (n + S' + 8) _ rfl HO3.out PA N pc (ints .u8 pl) rfl (by rw [ints_length, HNN.out, Nat.mul_one]) HNO.out HH3.out.cells (ints_one _ _) (by unfold maxLen; omega) (by omega) HB3.out.size ?_; intro v5 w5 hown5 hgrow5; have O5 := Lib.hid hown5; have G5 := Lib.hid hgrow5; clear hown5 hgrow5)
          have HNX2 : Hid (ParRow w n b ps (j + 1) v5 w5) := by
            refine ⟨?_, below_own HB3.out G5.out HO3.out HB3.out.size⟩
            have q := O5.out
            rw [← ints_app] at q
            rw [HNX.out, HSX.out, show n + (S' + (8 + N)) = n + S' + 8 + N by omega]
            simp only [← List.append_assoc] at q ⊢
            exact q
          clear O5 G5
          go_roundw
          case rel => exact ⟨j + 1, by omega, by go_num, HNX2.out⟩
          case measure => simp [intOf]; omega
        · have e : j = k := by omega
          subst e
          go_wp2
          go_ret
          have q := HR.out.1
          rw [HN'.out, List.take_length] at q
          exact res_of q HR.out.2

set_option maxRecDepth 100000 in
set_option maxHeartbeats 2000000 in
theorem text_any (A : Option Addr) (n c : Nat) (b : List Int) (s : ByteArray) (w : World) (h : Has .u8 w w.heap.size A b) (hn : n = b.length) (hA : A = none → n = 0 ∧ c = 0) (hl : n ≤ 10000) (hs : s.size ≤ 4000) :
    Calls Tryd.prog 12 #[.slice A n c, .string s] w (Res .u8 5 w (b ++ be8 s.size ++ strNums s)) := by
  obtain ⟨i0, hi0, hz0, hz1, hz2⟩ := info_parts Tryd.info5
  have H := Lib.hid h
  have HA := Lib.hid hA
  have HN := Lib.hid hn
  clear h hA hn
  go_enter Tryd.func12, Tryd.ntmps12
  go_wp2_with fail
  refine (withRoom_i A n c b _ (8 + s.size) (by omega) _ H.out HN.out HA.out (by omega) (by omega)).mono ?_
  rintro e w1 ⟨A1, c1, rfl, ho, hb⟩
  have HO1 := Lib.hid ho
  have HB1 := Lib.hid hb
  clear ho hb
  go_wp2_with fail
  refine (addNumber_any w.heap.size n c1 A1 _ (s.size : Int) _ HO1.out HB1.out.size (by omega)).mono ?_
  rintro e w2 ⟨A2, c2, rfl, ho, hb⟩
  have HO2 := Lib.hid ho
  have HB2 := Lib.hid (HB1.out.trans hb)
  clear ho hb
  go_wp2_with (at_builtin; (refine Lib.wpList_append_own_string w2 rfl _ _ 22 9 rfl w.heap.size 5 i0 Tryd.underlying22 Tryd.underlying9 hi0 hz0 hz1 hz2 _ _ _ rfl HO2.out s rfl (by unfold maxLen; omega) (by omega) HB2.out.size ?_); intro v3 w3 hown hgr hnil; clear hnil; have O3 := Lib.hid hown; have B3 := Lib.hid (below_own HB2.out hgr HO2.out HB2.out.size); clear hown hgr)
  go_ret
  have q := O3.out
  rw [strNums_cells, ← ints_app] at q
  exact res_of q B3.out
end Go.Proofs.YtmegjjfgiibobaaDoor
