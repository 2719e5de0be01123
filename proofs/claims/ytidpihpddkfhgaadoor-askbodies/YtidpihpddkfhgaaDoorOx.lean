/- Several texts in one: Oa, Ob, Oc, Od. -/
import Derived.Test.YtidpihpddkfhgaaDoorCe
import Derived.Test.YtidpihpddkfhgaaDoorCj
/- Numbers of two's complement, as the landed code reckons them. Nothing of the program. -/
namespace Go.Proofs.YtidpihpddkfhgaaDoor
open Go.RowKit Slices Go.Proofs.YtidpihpddkfhgaaDoor.Bit

theorem bits_or64 (a b : Int) : bits .or .i64 a b = IntKind.i64.wrap ((BitVec.ofInt 64 a ||| BitVec.ofInt 64 b).toNat : Nat) := rfl
/-- a byte behind a number whose lowest byte is 0 -/
theorem or_low (v x : Nat) (hv : v < 72057594037927936) (hx : x < 256) : bits .or .i64 (wrap64 ((v : Int) * 256)) (x : Int) = wrap64 ((v * 256 + x : Nat) : Int) := by
  rw [bits_or64, BitVec.toNat_or, BitVec.toNat_ofInt, BitVec.toNat_ofInt]
  have e1 : (wrap64 ((v : Int) * 256) % ((2 ^ 64 : Nat) : Int)).toNat = 2 ^ 8 * v := by
    have e : ((2 ^ 64 : Nat) : Int) = 18446744073709551616 := by decide
    rw [e]
    unfold wrap64
    omega
  have e2 : ((x : Int) % ((2 ^ 64 : Nat) : Int)).toNat = x := by
    have e : ((2 ^ 64 : Nat) : Int) = 18446744073709551616 := by decide
    rw [e]
    omega
  rw [e1, e2, ← Nat.two_pow_add_eq_or_of_lt (i := 8) hx v, IntKind.wrap_i64]
  unfold wrap64
  omega
theorem wrap_small {v : Nat} (hv : v < 72057594037927936) : wrap64 (v : Int) = v := by unfold wrap64; omega
/-- the byte of a number that stands so many bits up -/
theorem byte_shr (n : Int) (k : Nat) (hk : k ≤ 7) : (n / 2 ^ (8 * k)) % 256 = byteAt n k := by
  have h : ∀ P Q : Int, 0 < P → P * Q = 18446744073709551616 → Q % 256 = 0 → n / P % 256 = (n % 18446744073709551616) / P % 256 := by
    intro P Q hP hPQ hQ
    have e : n = n % 18446744073709551616 + P * (Q * (n / 18446744073709551616)) := by
      have := Int.emod_add_mul_ediv n 18446744073709551616
      rw [← Int.mul_assoc, hPQ]
      omega
    obtain ⟨q, hq⟩ := Int.dvd_of_emod_eq_zero hQ
    have e3 : (n % 18446744073709551616 + P * (Q * (n / 18446744073709551616))) / P = n % 18446744073709551616 / P + Q * (n / 18446744073709551616) := Int.add_mul_ediv_left _ _ (by omega)
    have e2 : n / P = n % 18446744073709551616 / P + Q * (n / 18446744073709551616) := by rw [← e3, ← e]
    rw [e2, hq, Int.mul_assoc]
    omega
  unfold byteAt
  rw [Int.natCast_emod, Int.natCast_ediv, u64_cast]
  have hp : (2 : Int) ^ (8 * k) = ((256 ^ k : Nat) : Int) := by rw [pow_cast, Nat.pow_mul]
  rw [hp]
  refine h _ ((256 ^ (8 - k) : Nat) : Int) ?_ ?_ ?_
  · have := Nat.pow_pos (n := k) (show 0 < 256 by decide)
    omega
  · rw [← Int.natCast_mul, ← Nat.pow_add, show k + (8 - k) = 8 by omega]
    decide
  · rw [show 8 - k = (7 - k) + 1 by omega, Nat.pow_succ, Int.natCast_mul]
    omega
end Go.Proofs.YtidpihpddkfhgaaDoor

/- Contracts: the landed code's bytes: with room, a number behind them, numbers. -/
namespace Go.Proofs.YtidpihpddkfhgaaDoor
open Go.RowKit Slices Go.Proofs.YtidpihpddkfhgaaDoor.Bit

/-- bytes that a call made: as many as n, L -/
def Row (B : Nat) (w : World) (n : Nat) (L : List Int) (e : Ending) (w' : World) : Prop :=
  ∃ A' c', e = .returned (.slice A' n c') ∧ w'.ownsRow B 5 1 (.slice A' n c') n (ints .u8 L) ∧ Below B w w'
theorem row_of {B n : Nat} {w w' : World} {v : Value} {L : List Int} (h : w'.ownsRow B 5 1 v n (ints .u8 L)) (hb : Below B w w') : Row B w n L (.returned v) w' := by
  obtain ⟨A, c, rfl⟩ := own_slice h
  exact ⟨A, c, rfl, h, hb⟩
theorem below_own {B n : Nat} {w0 w w' : World} {v : Value} {xs : List Value} (h : Below B w0 w) (hg : w.grownBy w' v.ownBlock) (ho : w.ownsRow B 5 1 v n xs) (hB : B ≤ w.heap.size) : Below B w0 w' :=
  h.grown hg hB (fun q hq => (ho.lt q hq).1)

set_option maxRecDepth 100000 in
set_option maxHeartbeats 1000000 in
theorem withRoom_any (A : Option Addr) (n c : Nat) (b : List Int) (m : Nat) (w : World) (h : Has .u8 w w.heap.size A b) (hn : n = b.length) (hA : A = none → n = 0 ∧ c = 0) (hl : n ≤ 40000) (hm : m ≤ 40000) :
    Calls Tryd.prog 63 #[.slice A n c, .int .i64 (m : Int)] w (Row w.heap.size w n b) := by
  obtain ⟨i0, hi0, hz0, hz1, hz2⟩ := info_parts Tryd.info5
  have H := Lib.hid h
  have HA := Lib.hid hA
  have HN := Lib.hid hn
  clear h hA hn
  go_enter Tryd.func63, Tryd.ntmps63
  go_wp2_with (first
    | (at_make; refine wpList_make_own _ rfl _ _ 22 rfl w.heap.size 5 i0 (.int .u8 0) 1 Tryd.underlying22 hi0 hz0 hz1 _ _ _ (n + m) rfl rfl (by omega) (by rw [hz2]; omega) (by unfold maxLen; omega) (Nat.le_refl _) ?_; intro w1 hown hgrow; have HO := Lib.hid hown; clear hown; have HG := Lib.hid hgrow; clear hgrow)
    | (at_builtin; refine append_any _ rfl _ _ 22 rfl w.heap.size 5 i0 (.int .u8 0) 1 1 Tryd.underlying22 hi0 hz0 hz1 hz2 rfl (by decide) _ 0 [] rfl HO.out A n c (ints .u8 b) rfl (by rw [ints_length, HN.out, Nat.mul_one]) HA.out (fun ad e j u hu => HG.out.cell (H.out.cells ad e j u hu) (by simp)) (ints_one _ _) (by unfold maxLen; omega) (by omega) HG.out.size ?_; intro v2 w2 hown2 hgrow2; have HO2 := Lib.hid hown2; clear hown2; have HG2 := Lib.hid hgrow2; clear hgrow2))
  go_ret
  have o2 : w2.ownsRow w.heap.size 5 1 v2 n (ints .u8 b) := by have := HO2.out; rwa [List.nil_append, Nat.zero_add] at this
  exact row_of o2 (below_own ((Below.refl _ _).grown HG.out (Nat.le_refl _) (by simp)) HG2.out HO.out HG.out.size)

/-- the first m bytes of x are laid behind b -/
def AdRow (B n : Nat) (w : World) (b : List Int) (x : Int) (m : Nat) (v : Value) (wr : World) : Prop :=
  wr.ownsRow B 5 1 v (n + m) (ints .u8 (b ++ beTo x m)) ∧ Below B w wr

set_option maxRecDepth 100000 in
set_option maxHeartbeats 1000000 in
theorem addNumber_any (B n c : Nat) (A : Option Addr) (b : List Int) (x : Int) (w : World) (h : w.ownsRow B 5 1 (.slice A n c) n (ints .u8 b)) (hB : B ≤ w.heap.size) (hl : n ≤ 100000) :
    Calls Tryd.prog 64 #[.slice A n c, .int .i64 x] w (Row B w (n + 8) (b ++ be8 x)) := by
  obtain ⟨i0, hi0, hz0, hz1, hz2⟩ := info_parts Tryd.info5
  have HS : Hid (AdRow B n w b x 0 (.slice A n c) w) := ⟨by simpa [beTo] using h, Below.refl _ _⟩
  clear h
  go_enter Tryd.func64, Tryd.ntmps64
  go_wp2
  go_loopw [0, 5] (fun v i wr => ∃ m : Nat, m ≤ 8 ∧ i = .int .i64 (56 - 8 * (m : Int)) ∧ AdRow B n w b x m v wr) (fun _ i _ => (intOf i + 8).toNat)
  case atStart => exact ⟨0, by omega, rfl, HS.out⟩
  case round =>
    obtain ⟨m, hm, rfl, hrow⟩ := hrel
    have HM := Lib.hid hrow
    clear hrow HS
    by_cases hm8 : m < 8
    · have d0 : decide (0 ≤ 56 - 8 * (m : Int)) = true := by rw [decide_eq_true_iff]; omega
      have HBY : Hid (x / 2 ^ (56 - 8 * m) % 256 = byteAt x (7 - m)) := by rw [show 56 - 8 * m = 8 * (7 - m) by omega]; exact byte_shr x (7 - m) (by omega)
      have hsz : B ≤ wr.heap.size := Nat.le_trans hB HM.out.2.size
      go_wp2_with (at_builtin; refine append_any _ rfl (.tmp 10) (.tmp 15) 22 rfl B 5 i0 (.int .u8 0) 1 1 Tryd.underlying22 hi0 hz0 hz1 hz2 rfl (by decide) u0 (n + m) _ rfl (HM.out.1.alloc _) (some ⟨wr.heap.size, 0, none⟩) 1 1 [.int .u8 (x / 2 ^ (56 - 8 * m) % 256)] rfl rfl (fun h => by cases h) (fun ad e => by injection e with e; subst e; exact World.news_of_block (cs := #[.int .u8 (x / 2 ^ (56 - 8 * m) % 256)]) (t := 5) (fr := (0, 0)) (heap_alloc_new wr _)) (by simp [Value.oneCell']) (by unfold maxLen; omega) (by omega) (by simp; omega) ?_; intro v4 w4 hown4 hgrow4; have O4 := Lib.hid hown4; have G4 := Lib.hid hgrow4; clear hown4 hgrow4)
      have HNX : Hid (AdRow B n w b x (m + 1) v4 w4) := by
        refine ⟨?_, below_own (HM.out.2.alloc hsz _) G4.out (HM.out.1.alloc _) (by simp; omega)⟩
        have q := O4.out
        rw [HBY.out, ints_snoc, List.append_assoc, ← beTo_succ] at q
        exact q
      clear O4 G4
      go_roundw
      case rel => exact ⟨m + 1, by omega, by go_num, HNX.out⟩
      case measure => simp [intOf]; omega
    · have e : m = 8 := by omega
      subst e
      have d0 : decide (0 ≤ 56 - 8 * ((8 : Nat) : Int)) = false := by decide
      go_wp2
      go_ret
      exact row_of HM.out.1 HM.out.2
end Go.Proofs.YtidpihpddkfhgaaDoor

/- Contracts: the landed code's Number, Bytes and Text. -/
namespace Go.Proofs.YtidpihpddkfhgaaDoor
open Go.RowKit Slices Go.Proofs.YtidpihpddkfhgaaDoor.Bit

theorem withRoom_i (A : Option Addr) (n c : Nat) (b : List Int) (M : Int) (m : Nat) (hM : M = (m : Int)) (w : World) (h : Has .u8 w w.heap.size A b) (hn : n = b.length) (hA : A = none → n = 0 ∧ c = 0) (hl : n ≤ 40000) (hm : m ≤ 40000) :
    Calls Tryd.prog 63 #[.slice A n c, .int .i64 M] w (Row w.heap.size w n b) := by
  subst hM
  exact withRoom_any A n c b m w h hn hA hl hm
theorem row_trans {B n m : Nat} {w w1 : World} {L L' : List Int} {e : Ending} {w' : World} (hb : Below B w w1) (hn : n = m) (hL : L = L') (h : Row B w1 n L e w') : Row B w m L' e w' := by
  subst hn
  subst hL
  obtain ⟨A, c, he, ho, h2⟩ := h
  exact ⟨A, c, he, ho, hb.trans h2⟩
theorem res_row {w : World} {n : Nat} {L : List Int} {e : Ending} {w' : World} (h : Row w.heap.size w n L e w') : Res .u8 5 w L e w' := by
  obtain ⟨A, c, he, ho, h2⟩ := h
  have hl := own_len ho
  subst hl
  exact ⟨A, c, he, ho, h2⟩

/-- the bytes of the first k numbers are laid behind b -/
def NumRow (w : World) (n : Nat) (b ns : List Int) (k : Nat) (v : Value) (wr : World) : Prop :=
  wr.ownsRow w.heap.size 5 1 v (n + 8 * k) (ints .u8 (b ++ beL (ns.take k))) ∧ Below w.heap.size w wr
set_option maxRecDepth 100000 in
set_option maxHeartbeats 1000000 in
theorem number_any (A A' : Option Addr) (n c n' c' : Nat) (b ns : List Int) (w : World) (h : Has .u8 w w.heap.size A b) (hn : n = b.length) (hA : A = none → n = 0 ∧ c = 0) (hl : n ≤ 10000) (hn' : n' = ns.length) (h' : Has .i64 w w.heap.size A' ns) (hl' : n' ≤ 100) :
    Calls Tryd.prog 43 #[.slice A n c, .slice A' n' c'] w (Res .u8 5 w (b ++ beL ns)) := by
  have H := Lib.hid h
  have H' := Lib.hid h'
  have HA := Lib.hid hA
  have HN := Lib.hid hn
  have HN' := Lib.hid hn'
  clear h h' hA hn hn'
  go_enter Tryd.func43, Tryd.ntmps43
  go_wp2_with fail
  refine (withRoom_i A n c b _ (8 * n') (by omega) _ H.out HN.out HA.out (by omega) (by omega)).mono ?_
  rintro e w1 ⟨A1, c1, rfl, ho, hb⟩
  have HS : Hid (NumRow w n b ns 0 (.slice A1 n c1) w1) := ⟨by simpa [beL] using ho, hb⟩
  clear ho hb
  go_wp2
  go_loopw [5, 15] (fun v i wr => ∃ k : Nat, k ≤ n' ∧ i = .int .i64 k ∧ NumRow w n b ns k v wr) (fun _ i _ => n' - (intOf i).toNat)
  case atStart => exact ⟨0, by omega, rfl, HS.out⟩
  case round =>
    obtain ⟨k, hk, rfl, hrow⟩ := hrel
    have HR := Lib.hid hrow
    clear hrow HS
    by_cases hlt : k < n'
    · obtain ⟨a, rfl, _, ha⟩ := (H'.out.below HR.out.2) k (by have := HN'.out; omega)
      obtain ⟨x, hx⟩ : ∃ x, x = ns.getD k 0 := ⟨_, rfl⟩
      rw [← hx] at ha
      have HX := Lib.hid hx
      clear hx
      obtain ⟨A2, c2, rfl⟩ := own_slice HR.out.1
      have hs := HR.out.2.size
      go_wp2_with fail
      refine (addNumber_any w.heap.size _ c2 A2 _ x _ HR.out.1 hs (by omega)).mono ?_
      rintro e w4 ⟨A3, c3, rfl, ho, hb⟩
      have HNX : Hid (NumRow w n b ns (k + 1) (.slice A3 (n + 8 * k + 8) c3) w4) := by
        refine ⟨?_, HR.out.2.trans hb⟩
        have e2 : ns.take (k + 1) = ns.take k ++ [x] := by
          have hk2 : k < ns.length := by have := HN'.out; omega
          rw [List.take_succ_eq_append_getElem hk2, HX.out, List.getD_eq_getElem?_getD, List.getElem?_eq_getElem hk2]; rfl
        rw [e2, beL_app, beL_one, ← List.append_assoc, show n + 8 * (k + 1) = n + 8 * k + 8 by omega]
        exact ho
      clear ho hb
      go_wp2
      go_roundw
      case rel => exact ⟨k + 1, by omega, by go_num, HNX.out⟩
      case measure => simp [intOf]; omega
    · have e : k = n' := by omega
      subst e
      go_wp2
      go_ret
      have q := HR.out.1
      rw [HN'.out, List.take_length] at q
      exact res_of q HR.out.2
end Go.Proofs.YtidpihpddkfhgaaDoor

/- Contract: the landed code's Bytes and Text. -/
namespace Go.Proofs.YtidpihpddkfhgaaDoor
open Go.RowKit Slices Go.Proofs.YtidpihpddkfhgaaDoor.Bit

/-- how many bytes the first k parts come to -/
def sumP (ps : List Piece) (k : Nat) : Nat := (partsB (bytesOf (ps.take k))).length
theorem sumP_zero (ps : List Piece) : sumP ps 0 = 0 := rfl
theorem sumP_succ (ps : List Piece) {k : Nat} (h : k < ps.length) : sumP ps (k + 1) = sumP ps k + (8 + ps[k].l.length) := by
  unfold sumP
  rw [bytes_next ps h, List.length_append, List.length_append, be8_len]
  omega
theorem sumP_le (ps : List Piece) (hn : ps.length ≤ 4) (hp : ∀ k (h : k < ps.length), ps[k].l.length ≤ 4000) (k : Nat) : sumP ps k ≤ 17000 := by
  have := partsB_le (N := 4000) (bytesOf (ps.take k)) (fun l hl => by
    unfold bytesOf at hl
    rw [List.mem_map] at hl
    obtain ⟨p, hp1, rfl⟩ := hl
    obtain ⟨i, hi, rfl⟩ := List.mem_iff_getElem.1 (List.mem_of_mem_take hp1)
    exact hp i hi)
  unfold bytesOf at this
  rw [List.length_map, List.length_take] at this
  unfold sumP bytesOf
  have : min k ps.length * (4000 + 8) ≤ 4 * 4008 := Nat.mul_le_mul_right _ (by omega)
  omega

/-- the bytes of the first k parts are laid behind b -/
def ParRow (w : World) (n : Nat) (b : List Int) (ps : List Piece) (k : Nat) (v : Value) (wr : World) : Prop :=
  wr.ownsRow w.heap.size 5 1 v (n + sumP ps k) (ints .u8 (b ++ partsB (bytesOf (ps.take k)))) ∧ Below w.heap.size w wr
set_option maxRecDepth 100000 in
set_option maxHeartbeats 2000000 in
theorem bytes_any (A A' : Option Addr) (n c n' c' : Nat) (b : List Int) (ps : List Piece) (w : World) (h : Has .u8 w w.heap.size A b) (hn : n = b.length) (hA : A = none → n = 0 ∧ c = 0) (hl : n ≤ 10000) (hn' : n' = ps.length) (h' : HasP w w.heap.size A' ps) (hl' : n' ≤ 4) (hp : ∀ k (h : k < ps.length), ps[k].l.length ≤ 4000) :
    Calls Tryd.prog 41 #[.slice A n c, .slice A' n' c'] w (Res .u8 5 w (b ++ partsB (bytesOf ps))) := by
  obtain ⟨i0, hi0, hz0, hz1, hz2⟩ := info_parts Tryd.info5
  have HLE : Hid (∀ k, sumP ps k ≤ 17000) := sumP_le ps (by omega) hp
  have H := Lib.hid h
  have H' := Lib.hid h'
  have HA := Lib.hid hA
  have HN := Lib.hid hn
  have HN' := Lib.hid hn'
  have HP := Lib.hid hp
  clear h h' hA hn hn' hp
  go_enter Tryd.func41, Tryd.ntmps41
  go_wp2
  go_loop [5, 13] (fun v i => ∃ k : Nat, k ≤ n' ∧ v = .int .i64 (sumP ps k : Nat) ∧ i = .int .i64 k) (fun _ i => n' - (intOf i).toNat)
  case atStart => exact ⟨0, by omega, rfl, rfl⟩
  case round =>
    obtain ⟨k, hk, rfl, rfl⟩ := hrel
    by_cases hlt : k < n'
    · have hk2 : k < ps.length := by have := HN'.out; omega
      obtain ⟨⟨a, rfl, _, ha⟩, _, _⟩ := H'.out k hk2
      obtain ⟨N, hN⟩ : ∃ N, N = ps[k].l.length := ⟨_, rfl⟩
      have HSN : Hid (sumP ps (k + 1) = sumP ps k + (8 + N)) := by show _ = _; rw [sumP_succ ps hk2, hN]
      have hpl := HP.out k hk2
      rw [← hN] at ha hpl
      have hs := HLE.out k
      generalize sumP ps k = S at HSN hs
      clear hN
      go_wp2
      go_round
      case rel => exact ⟨k + 1, by omega, by rw [HSN.out]; go_num, by go_num⟩
      case measure => simp [intOf]; omega
    · have e : k = n' := by omega
      subst e
      have hs := HLE.out k
      obtain ⟨S, hS⟩ : ∃ S, S = sumP ps k := ⟨_, rfl⟩
      rw [← hS] at hs ⊢
      clear hS
      go_wp2_with fail
      refine (withRoom_i A n c b _ S rfl _ H.out HN.out HA.out (by omega) (by omega)).mono ?_
      rintro e w1 ⟨A1, c1, rfl, ho, hb⟩
      have HS : Hid (ParRow w n b ps 0 (.slice A1 n c1) w1) := ⟨by simpa [partsB, bytesOf, sumP] using ho, hb⟩
      clear ho hb hs
      go_wp2
      go_loopw [8, 28] (fun v i wr => ∃ j : Nat, j ≤ k ∧ i = .int .i64 j ∧ ParRow w n b ps j v wr) (fun _ i _ => k - (intOf i).toNat)
      case atStart => exact ⟨0, by omega, rfl, HS.out⟩
      case round =>
        obtain ⟨j, hj, rfl, hrow⟩ := hrel
        have HR := Lib.hid hrow
        clear hrow HS
        by_cases hjt : j < k
        · have hk2 : j < ps.length := by have := HN'.out; omega
          obtain ⟨⟨a, rfl, _, ha⟩, hh, hno⟩ := (H'.out.below HR.out.2) j hk2
          have hnx := bytes_next ps hk2
          have hsx := sumP_succ ps hk2
          have hpl := HP.out j hk2
          have hs := HLE.out j
          obtain ⟨PA, hPA⟩ : ∃ x, x = ps[j].A := ⟨_, rfl⟩
          obtain ⟨pc, hpc⟩ : ∃ x, x = ps[j].c := ⟨_, rfl⟩
          obtain ⟨pl, hpl2⟩ : ∃ x, x = ps[j].l := ⟨_, rfl⟩
          obtain ⟨N, hN⟩ : ∃ x, x = pl.length := ⟨_, rfl⟩
          rw [← hpl2, ← hN] at ha hno hsx hpl hnx
          rw [← hPA, ← hpc] at ha hno
          rw [← hPA, ← hpl2] at hh
          have HH := Lib.hid hh
          have HNO := Lib.hid hno
          have HNX := Lib.hid hnx
          have HSX := Lib.hid hsx
          have HNN := Lib.hid hN
          obtain ⟨A2, c2, rfl⟩ := own_slice HR.out.1
          have hsz := HR.out.2.size
          obtain ⟨S', hS'⟩ : ∃ S', S' = sumP ps j := ⟨_, rfl⟩
          have ho2 := HR.out.1
          rw [← hS'] at hs ho2 HSX
          have HO2 := Lib.hid ho2
          rw [← hS']
          clear hPA hpc hpl2 hN hh hno hnx hsx hS' ho2
          go_wp2_with fail
          refine (addNumber_any w.heap.size (n + S') c2 A2 _ N _ HO2.out hsz (by omega)).mono ?_
          rintro e w4 ⟨A3, c3, rfl, ho, hb⟩
          have HO3 := Lib.hid ho
          have HB3 : Hid (Below w.heap.size w w4) := HR.out.2.trans hb
          have HH3 : Hid (Has .u8 w4 w.heap.size PA pl) := HH.out.below hb
          clear ho hb
          go_wp2_with (at_builtin; refine append_any _ rfl _ _ 22 rfl w.heap.size 5 i0 (.int .u8 0) 1 1 Tryd.underlying22 hi0 hz0 hz1 hz2 rfl (by decide) _ (n + S' + 8) _ rfl HO3.out PA N pc (ints .u8 pl) rfl (by rw [ints_length, HNN.out, Nat.mul_one]) HNO.out HH3.out.cells (ints_one _ _) (by unfold maxLen; omega) (by omega) HB3.out.size ?_; intro v5 w5 hown5 hgrow5; have O5 := Lib.hid hown5; have G5 := Lib.hid hgrow5; clear hown5 hgrow5)
          have HNX2 : Hid (ParRow w n b ps (j + 1) v5 w5) := by
            refine ⟨?_, below_own HB3.out G5.out HO3.out HB3.out.size⟩
            have q := O5.out
            rw [← ints_app] at q
            rw [HNX.out, HSX.out, show n + (S' + (8 + N)) = n + S' + 8 + N by omega]
            simp only [← List.append_assoc] at q ⊢
            exact q
          clear O5 G5
          go_roundw
          case rel => exact ⟨j + 1, by omega, by go_num, HNX2.out⟩
          case measure => simp [intOf]; omega
        · have e : j = k := by omega
          subst e
          go_wp2
          go_ret
          have q := HR.out.1
          rw [HN'.out, List.take_length] at q
          exact res_of q HR.out.2

set_option maxRecDepth 100000 in
set_option maxHeartbeats 2000000 in
theorem text_any (A : Option Addr) (n c : Nat) (b : List Int) (s : ByteArray) (w : World) (h : Has .u8 w w.heap.size A b) (hn : n = b.length) (hA : A = none → n = 0 ∧ c = 0) (hl : n ≤ 10000) (hs : s.size ≤ 4000) :
    Calls Tryd.prog 42 #[.slice A n c, .string s] w (Res .u8 5 w (b ++ be8 s.size ++ strNums s)) := by
  obtain ⟨i0, hi0, hz0, hz1, hz2⟩ := info_parts Tryd.info5
  have H := Lib.hid h
  have HA := Lib.hid hA
  have HN := Lib.hid hn
  clear h hA hn
  go_enter Tryd.func42, Tryd.ntmps42
  go_wp2_with fail
  refine (withRoom_i A n c b _ (8 + s.size) (by omega) _ H.out HN.out HA.out (by omega) (by omega)).mono ?_
  rintro e w1 ⟨A1, c1, rfl, ho, hb⟩
  have HO1 := Lib.hid ho
  have HB1 := Lib.hid hb
  clear ho hb
  go_wp2_with fail
  refine (addNumber_any w.heap.size n c1 A1 _ (s.size : Int) _ HO1.out HB1.out.size (by omega)).mono ?_
  rintro e w2 ⟨A2, c2, rfl, ho, hb⟩
  have HO2 := Lib.hid ho
  have HB2 := Lib.hid (HB1.out.trans hb)
  clear ho hb
  go_wp2_with (at_builtin; (refine Lib.wpList_append_own_string w2 rfl _ _ 22 9 rfl w.heap.size 5 i0 Tryd.underlying22 Tryd.underlying9 hi0 hz0 hz1 hz2 _ _ _ rfl HO2.out s rfl (by unfold maxLen; omega) (by omega) HB2.out.size ?_); intro v3 w3 hown hgr hnil; clear hnil; have O3 := Lib.hid hown; have B3 := Lib.hid (below_own HB2.out hgr HO2.out HB2.out.size); clear hown hgr)
  go_ret
  have q := O3.out
  rw [strNums_cells, ← ints_app] at q
  exact res_of q B3.out
end Go.Proofs.YtidpihpddkfhgaaDoor

