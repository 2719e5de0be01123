/- The law BitsTell, walked. -/
import Derived.Test.YtkonbkmjodfcoaaK
namespace Go.Proofs.Ytkonbkmjodfcoaa
open Go.RowKit Slices Go.Proofs.Ytkonbkmjodfcoaa.Bit

theorem packI_len (d : Int) {l : List Int} (h : l.length ≤ 300) : (packI d l).length ≤ 4000 := by
  unfold packI
  split
  · rename_i hd
    rw [int_len, packN_len, nat_len]
    have : d.toNat * l.length ≤ 24 * 300 := Nat.mul_le_mul (by omega) h
    omega
  · simp
theorem unpackI_len (d : Int) {l : List Int} (h : l.length ≤ 300) : (unpackI d l).length ≤ 4000 := by
  unfold unpackI
  split
  · rw [int_len, unpackN_len, nat_len]
    exact Nat.le_trans (Nat.div_le_self _ _) (by omega)
  · simp
theorem own_low {t : TypeId} {w w' : World} {B g lo n c : Nat} {xs : List Value} (h : w.ownsRow B t 1 (.slice (some ⟨g, 0, none⟩) n c) n xs) (hg : g < lo) (hb : Below lo w w') : w'.ownsRow B t 1 (.slice (some ⟨g, 0, none⟩) n c) n xs := by
  refine ⟨h.1, ?_⟩
  rcases h.2 with h' | ⟨g', c', cur, hv, hB, hgg, hr⟩
  · exact .inl h'
  · refine .inr ⟨g', c', cur, hv, hB, (hb.block g' ?_).trans hgg, hr⟩
    injection hv with hv _ _
    injection hv with hv
    injection hv with hv
    omega

/-- what stays: both lists, and what was lent -/
structure Env (w0 : World) (lo : Nat) (A A' : Option Addr) (f g : List Int) (Bi gi Bb gb : Nat) (w : World) : Prop where
  hf : Has .i64 w lo A f
  hg : Has .u8 w lo A' g
  li : Lent w Bi gi f
  lb : LentB w Bb gb g
  hi : gi < lo
  hb : gb < lo
  bl : Below w0.heap.size w0 w
  s0 : w0.heap.size ≤ lo
  s1 : lo ≤ w.heap.size
theorem Env.low {w0 w w' : World} {lo Bi gi Bb gb : Nat} {A A' : Option Addr} {f g : List Int} (h : Env w0 lo A A' f g Bi gi Bb gb w) (hb : Below lo w w') : Env w0 lo A A' f g Bi gi Bb gb w' :=
  ⟨h.hf.below hb, h.hg.below hb, own_low h.li h.hi hb, own_low h.lb h.hb hb, h.hi, h.hb, h.bl.trans (hb.mono h.s0), h.s0, Nat.le_trans h.s1 hb.size⟩
theorem Env.next {w0 w w' : World} {lo Bi gi Bb gb : Nat} {A A' : Option Addr} {f g : List Int} (h : Env w0 lo A A' f g Bi gi Bb gb w) (hb : Below w.heap.size w w') : Env w0 lo A A' f g Bi gi Bb gb w' := h.low (hb.mono h.s1)

set_option maxRecDepth 100000 in
set_option maxHeartbeats 1000000 in
theorem tell_big (d x : Int) (A A' : Option Addr) (c c' n m : Nat) (w : World) (hn : n ≤ 4611686018427387904) (hm : m ≤ 4611686018427387904) (h : 300 < n ∨ 300 < m) :
    Calls Try.prog 3 #[.int .i64 d, .slice A n c, .slice A' m c', .int .i64 x] w fun e w' => e = .returned (.bool true) ∧ Below w.heap.size w w' := by
  by_cases h1 : 300 < n
  · clear h
    go_enter Try.func3, Try.ntmps3
    go_wp2_with (go_at_call 8; refine (awake_any _).mono ?_; rintro e w' ⟨rfl, hb⟩)
    go_ret
    exact ⟨rfl, hb⟩
  · have h2 : 300 < m := by omega
    clear h
    go_enter Try.func3, Try.ntmps3
    go_wp2_with (go_at_call 8; refine (awake_any _).mono ?_; rintro e w' ⟨rfl, hb⟩)
    go_ret
    exact ⟨rfl, hb⟩

set_option maxRecDepth 100000 in
set_option maxHeartbeats 4000000 in
theorem tell_small (d x : Int) (A A' : Option Addr) (c c' : Nat) (f g : List Int) (w : World) (hf : Has .i64 w w.heap.size A f) (hg : Has .u8 w w.heap.size A' g) (hA : A = none → f.length = 0 ∧ c = 0) (hA' : A' = none → g.length = 0 ∧ c' = 0) (h1 : f.length ≤ 300) (h2 : g.length ≤ 300) (hfit : Fit 8 g) :
    Calls Try.prog 3 #[.int .i64 d, .slice A f.length c, .slice A' g.length c', .int .i64 x] w fun e w' => e = .returned (.bool true) ∧ Below w.heap.size w w' := by
  have HF := Lib.hid hf
  have HG := Lib.hid hg
  have HA := Lib.hid hA
  have HA' := Lib.hid hA'
  have HFIT := Lib.hid hfit
  clear hf hg hA hA' hfit
  go_enter Try.func3, Try.ntmps3
  go_wp2_with fail
  refine (lend_any A c f w HF.out HA.out h1).mono ?_
  rintro e w1 ⟨gi, rfl, hL, hb⟩
  have L1 := Lib.hid hL
  have B1 := Lib.hid hb
  clear hL hb
  go_wp2_with fail
  refine (lendB_any A' c' g w1 (has_next HG.out B1.out) HA'.out h2).mono ?_
  rintro e w2 ⟨gb, rfl, hL, hb⟩
  have E2 : Hid (Env w w2.heap.size A A' f g w.heap.size gi w1.heap.size gb w2) :=
    ⟨has_next (has_next HF.out B1.out) hb, has_next (has_next HG.out B1.out) hb, own_next L1.out hb, hL, Nat.lt_of_lt_of_le (lent_block L1.out).2 hb.size, (lentB_block hL).2, below_next B1.out hb, Nat.le_trans B1.out.size hb.size, Nat.le_refl _⟩
  clear hL hb L1 B1
  go_wp2_with fail
  refine (pack_any d (some ⟨gi, 0, none⟩) (f.length + 3) _ f w2 rfl (lent_has E2.out.li) (by omega)).mono ?_
  rintro e w3 ⟨Ap, cp, rfl, ho, hb⟩
  have E3 := Lib.hid (E2.out.next hb)
  have P3 := Lib.hid (Mine.of ho hb)
  have LP := Lib.hid P3.out.lies
  have S3 : Hid (w2.heap.size ≤ w3.heap.size) := hb.size
  clear ho hb E2
  go_wp2_with fail
  refine (unpack_any d (some ⟨gb, 0, none⟩) (g.length + 3) _ g w3 rfl (lentB_has E3.out.lb) (by omega) HFIT.out).mono ?_
  rintro e w4 ⟨Au, cu, rfl, ho, hb⟩
  have E4 := Lib.hid (E3.out.next hb)
  have P4 := Lib.hid (P3.out.next hb)
  have U4 := Lib.hid (Mine.of ho hb)
  have LU := Lib.hid U4.out.lies
  have S4 : Hid (w3.heap.size ≤ w4.heap.size) := hb.size
  clear ho hb E3 P3
  go_wp2_with fail
  refine (refPack_any d A c _ f w4 rfl (E4.out.hf.mono E4.out.s1) (by omega)).mono ?_
  rintro e w5 ⟨Aq, cq, rfl, ho, hb⟩
  have E5 := Lib.hid (E4.out.next hb)
  have P5 := Lib.hid (P4.out.next hb)
  have U5 := Lib.hid (U4.out.next hb)
  have Q5 := Lib.hid (Mine.of ho hb)
  clear ho hb E4 P4 U4
  go_wp2_with fail
  refine (sameB_eq Ap Aq cp cq _ _ (packI d f) (packI d f) w5 rfl rfl rfl (packI_len d h1) P5.out.read Q5.out.read).mono ?_
  rintro e w6 ⟨rfl, hb⟩
  have E6 := Lib.hid (E5.out.next hb)
  have P6 := Lib.hid (P5.out.next hb)
  have U6 := Lib.hid (U5.out.next hb)
  clear hb E5 P5 U5 Q5
  go_wp2_with fail
  refine (refUnpack_any d A' c' _ g w6 rfl (E6.out.hg.mono E6.out.s1) (by omega) HFIT.out).mono ?_
  rintro e w7 ⟨Av, cv, rfl, ho, hb⟩
  have E7 := Lib.hid (E6.out.next hb)
  have P7 := Lib.hid (P6.out.next hb)
  have U7 := Lib.hid (U6.out.next hb)
  have V7 := Lib.hid (Mine.of ho hb)
  clear ho hb E6 P6 U6
  go_wp2_with fail
  refine (same_eq Au Av cu cv _ _ (unpackI d g) (unpackI d g) w7 rfl rfl rfl (unpackI_len d h2) U7.out.read V7.out.read).mono ?_
  rintro e w8 ⟨rfl, hb⟩
  have E8 := Lib.hid (E7.out.next hb)
  have P8 := Lib.hid (P7.out.next hb)
  have U8 := Lib.hid (U7.out.next hb)
  clear hb E7 P7 U7 V7
  have TS : Hid (w2.heap.size ≤ w3.heap.size ∧ w3.heap.size ≤ w4.heap.size) := ⟨S3.out, S4.out⟩
  clear S3 S4
  go_wp2_with (first
    | (go_at_call 17; refine (low_any d x w8).mono ?_; rintro e w' ⟨rfl, rfl⟩)
    | (go_at_call 18; refine (refLow_any d x w8).mono ?_; rintro e w' ⟨rfl, rfl⟩)
    | (go_at_call 19; refine (turn_any d x w8).mono ?_; rintro e w' ⟨rfl, rfl⟩)
    | (go_at_call 20; refine (refTurn_any d x w8).mono ?_; rintro e w' ⟨rfl, rfl⟩))
  refine (overB_any w2.heap.size cp Ap (packI d f) w8 P8.out (packI_len d h1)).mono ?_
  rintro e w9 ⟨rfl, hgr⟩
  have hb9 : Below w2.heap.size w8 w9 := below_of_grown hgr LP.out E8.out.s1
  have E9 := Lib.hid (E8.out.low hb9)
  have U9 := Lib.hid (U8.out.kept hgr LP.out (Nat.le_refl _))
  clear hgr hb9 E8 P8 U8
  go_wp2_with fail
  refine (over_any w3.heap.size cu Au (unpackI d g) w9 U9.out (unpackI_len d h2)).mono ?_
  rintro e w10 ⟨rfl, hgr⟩
  have hb10 : Below w2.heap.size w9 w10 := (below_of_grown hgr LU.out U9.out.2).mono TS.out.1
  have E10 := Lib.hid (E9.out.low hb10)
  clear hgr hb10 E9 U9
  go_wp2_with fail
  refine (kept_any gi w.heap.size A c f w10 E10.out.li (E10.out.hf.mono E10.out.s1) h1).mono ?_
  rintro e w11 ⟨rfl, hb⟩
  have E11 := Lib.hid (E10.out.next hb)
  clear hb E10
  go_wp2_with fail
  refine (keptB_any gb w1.heap.size A' c' g w11 E11.out.lb (E11.out.hg.mono E11.out.s1) h2).mono ?_
  rintro e w12 ⟨rfl, hb⟩
  have E12 := Lib.hid (E11.out.next hb)
  clear hb E11
  go_wp2_with fail
  refine (awake_any w12).mono ?_
  rintro e w13 ⟨rfl, hb⟩
  have B13 := Lib.hid (below_next E12.out.bl hb)
  clear hb E12
  go_wp2
  go_ret
  exact ⟨rfl, B13.out⟩
end Go.Proofs.Ytkonbkmjodfcoaa
