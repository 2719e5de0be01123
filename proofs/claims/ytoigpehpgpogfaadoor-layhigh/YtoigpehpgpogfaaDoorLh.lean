/- The law LayNear, walked. -/
import Derived.Test.YtoigpehpgpogfaaDoorLg
namespace Go.Proofs.YtoigpehpgpogfaaDoor
open Go.RowKit Slices Go.Proofs.YtoigpehpgpogfaaDoor.Bit

theorem near_len (a b : Int) (f : List Int) : (nearI a b f).length ≤ 4000 := by
  by_cases h : NearOk a b f
  · have hf := less_fit h
    have hw := width_le a b
    rw [near_yes h, packI_yes h.1 (by omega) hf, int_len, packN_len, nat_len, lessL_len, h.2.1.1]
    have : widthI a b * 256 ≤ 22 * 256 := Nat.mul_le_mul_right _ hw
    omega
  · rw [near_no h]; simp
theorem far_len (a b : Int) (l : List Int) : (farI a b l).length ≤ 4000 := by
  by_cases h : 1 ≤ widthI a b ∧ l.length = 32 * widthI a b
  · have hw := width_le a b
    rw [far_yes h, farL_len, unpackI_len l h.1 (by omega), h.2]
    have : 8 * (32 * widthI a b) = 256 * widthI a b := by omega
    rw [this, Nat.mul_div_cancel _ (by omega)]
    omega
  · rw [far_no h]; simp
theorem own_low {t : TypeId} {w w' : World} {B g lo n c : Nat} {xs : List Value} (h : w.ownsRow B t 1 (.slice (some ⟨g, 0, none⟩) n c) n xs) (hg : g < lo) (hb : Below lo w w') : w'.ownsRow B t 1 (.slice (some ⟨g, 0, none⟩) n c) n xs := by
  refine ⟨h.1, ?_⟩
  rcases h.2 with h' | ⟨g', c', cur, hv, hB, hgg, hr⟩
  · exact .inl h'
  · refine .inr ⟨g', c', cur, hv, hB, (hb.block g' ?_).trans hgg, hr⟩
    injection hv with hv _ _
    injection hv with hv
    injection hv with hv
    omega

/-- what stays: both lists, and what was lent -/
structure Env (w0 : World) (lo : Nat) (A A' : Option Addr) (f g : List Int) (Bi gi Bb gb : Nat) (w : World) : Prop where
  hf : Has .i64 w lo A f
  hg : Has .u8 w lo A' g
  li : Lent w Bi gi f
  lb : LentB w Bb gb g
  hi : gi < lo
  hb : gb < lo
  bl : Below w0.heap.size w0 w
  s0 : w0.heap.size ≤ lo
  s1 : lo ≤ w.heap.size
theorem Env.low {w0 w w' : World} {lo Bi gi Bb gb : Nat} {A A' : Option Addr} {f g : List Int} (h : Env w0 lo A A' f g Bi gi Bb gb w) (hb : Below lo w w') : Env w0 lo A A' f g Bi gi Bb gb w' :=
  ⟨h.hf.below hb, h.hg.below hb, own_low h.li h.hi hb, own_low h.lb h.hb hb, h.hi, h.hb, h.bl.trans (hb.mono h.s0), h.s0, Nat.le_trans h.s1 hb.size⟩
theorem Env.next {w0 w w' : World} {lo Bi gi Bb gb : Nat} {A A' : Option Addr} {f g : List Int} (h : Env w0 lo A A' f g Bi gi Bb gb w) (hb : Below w.heap.size w w') : Env w0 lo A A' f g Bi gi Bb gb w' := h.low (hb.mono h.s1)


/-- nine numbers at a block -/
def Nine (w : World) (g : Nat) (t : TypeId) (cs : Array Value) : Prop := w.heap[g]? = some (.cells cs t (0, 0))
theorem Nine.lt {w : World} {g : Nat} {t : TypeId} {cs : Array Value} (h : Nine w g t cs) : g < w.heap.size := by
  rcases Nat.lt_or_ge g w.heap.size with h' | h'
  · exact h'
  · unfold Nine at h; rw [Array.getElem?_eq_none h'] at h; cases h
theorem Nine.next {w w' : World} {g : Nat} {t : TypeId} {cs : Array Value} (h : Nine w g t cs) (hb : Below w.heap.size w w') : Nine w' g t cs := (hb.block g h.lt).trans h
theorem Nine.cell {w : World} {g : Nat} {t : TypeId} {cs : Array Value} (h : Nine w g t cs) (k : Nat) : w.cell? ⟨g, k, none⟩ = cs[k]? := cell_of_row _ _ k _ _ _ h
theorem Nine.new (w : World) (t : TypeId) (cs : Array Value) : Nine (w.alloc (.cells cs t)) w.heap.size t cs := heap_alloc_new w _
theorem set_nine (s : Int) : ∃ x0 x1 x2 x3 x4 x5 x6 x7 x8 : Int, setV s = #[.int .i64 x0, .int .i64 x1, .int .i64 x2, .int .i64 x3, .int .i64 x4, .int .i64 x5, .int .i64 x6, .int .i64 x7, .int .i64 x8] := by
  rcases set_cases s with rfl | rfl | rfl | ⟨h1, h2, h3⟩
  · exact ⟨_, _, _, _, _, _, _, _, _, rfl⟩
  · exact ⟨_, _, _, _, _, _, _, _, _, rfl⟩
  · exact ⟨_, _, _, _, _, _, _, _, _, rfl⟩
  · refine ⟨0, 0, 0, 0, 0, 0, 0, 0, 0, ?_⟩
    unfold setV setN; rw [if_neg h1, if_neg h2, if_neg h3]; rfl

set_option maxRecDepth 100000 in
set_option maxHeartbeats 1000000 in
theorem layNear_big (P : LayOk) (s a b : Int) (A A' : Option Addr) (c c' n m : Nat) (w : World) (hn : n ≤ 4611686018427387904) (hm : m ≤ 4611686018427387904) (h : 300 < n ∨ 1000 < m) (hg : Han w) :
    Calls Tryd.prog 3 #[.int .i64 s, .int .i64 a, .int .i64 b, .slice A n c, .slice A' m c'] w fun e w' => e = .returned (.bool true) ∧ Below w.heap.size w w' := by
  have HG := Lib.hid hg
  clear hg
  by_cases h1 : 300 < n
  · clear h
    go_enter Tryd.func3, Tryd.ntmps3
    go_wp2_with (go_at_call 8; refine (awake_any P _ HG.out).mono ?_; rintro e w' ⟨rfl, hb⟩)
    go_ret
    exact ⟨rfl, hb⟩
  · have h2 : 1000 < m := by omega
    clear h
    go_enter Tryd.func3, Tryd.ntmps3
    go_wp2_with (go_at_call 8; refine (awake_any P _ HG.out).mono ?_; rintro e w' ⟨rfl, hb⟩)
    go_ret
    exact ⟨rfl, hb⟩

set_option maxRecDepth 100000 in
set_option maxHeartbeats 8000000 in
theorem layNear_small (P : LayOk) (s a b : Int) (A A' : Option Addr) (c c' : Nat) (f g : List Int) (w : World) (hf : Has .i64 w w.heap.size A f) (hg : Has .u8 w w.heap.size A' g) (hA : A = none → f.length = 0 ∧ c = 0) (hA' : A' = none → g.length = 0 ∧ c' = 0) (h1 : f.length ≤ 300) (h2 : g.length ≤ 1000) (hfit : Fit 8 g) (hh : Han w) :
    Calls Tryd.prog 3 #[.int .i64 s, .int .i64 a, .int .i64 b, .slice A f.length c, .slice A' g.length c'] w fun e w' => e = .returned (.bool true) ∧ Below w.heap.size w w' := by
  obtain ⟨x0, x1, x2, x3, x4, x5, x6, x7, x8, hx⟩ := set_nine s
  have HX := Lib.hid hx
  have HF := Lib.hid hf
  have HG := Lib.hid hg
  have HA := Lib.hid hA
  have HA' := Lib.hid hA'
  have HFIT := Lib.hid hfit
  have HH := Lib.hid hh
  clear hf hg hA hA' hfit hx hh
  go_enter Tryd.func3, Tryd.ntmps3
  go_wp2_with fail
  refine (lend_any A c f w HF.out HA.out (by omega)).mono ?_
  rintro e w1 ⟨gi, rfl, hL, hb⟩
  have L1 := Lib.hid hL
  have B1 := Lib.hid hb
  clear hL hb
  go_wp2_with fail
  refine (lendB_any A' c' g w1 (has_next HG.out B1.out) HA'.out (by omega)).mono ?_
  rintro e w2 ⟨gb, rfl, hL, hb⟩
  have E2 : Hid (Env w w2.heap.size A A' f g w.heap.size gi w1.heap.size gb w2) :=
    ⟨has_next (has_next HF.out B1.out) hb, has_next (has_next HG.out B1.out) hb, own_next L1.out hb, hL, Nat.lt_of_lt_of_le (lent_block L1.out).2 hb.size, (lentB_block hL).2, below_next B1.out hb, Nat.le_trans B1.out.size hb.size, Nat.le_refl _⟩
  clear hL hb L1 B1
  go_wp2_with fail
  refine (P.near a b (some ⟨gi, 0, none⟩) (f.length + 3) _ f w2 rfl (lent_has E2.out.li) (by omega)).mono ?_
  rintro e w3 ⟨Ap, cp, rfl, ho, hb⟩
  have E3 := Lib.hid (E2.out.next hb)
  have P3 := Lib.hid (Mine.of ho hb)
  have LP := Lib.hid P3.out.lies
  have S3 : Hid (w2.heap.size ≤ w3.heap.size) := hb.size
  clear ho hb E2
  go_wp2_with fail
  refine (P.far a b (some ⟨gb, 0, none⟩) (g.length + 3) _ g w3 rfl (lentB_has E3.out.lb) HFIT.out (by omega)).mono ?_
  rintro e w4 ⟨Au, cu, rfl, ho, hb⟩
  have E4 := Lib.hid (E3.out.next hb)
  have P4 := Lib.hid (P3.out.next hb)
  have U4 := Lib.hid (Mine.of ho hb)
  have LU := Lib.hid U4.out.lies
  have S4 : Hid (w3.heap.size ≤ w4.heap.size) := hb.size
  clear ho hb E3 P3
  go_wp2_with fail
  refine (P.set s w4).mono ?_
  rw [HX.out]
  rintro e w5 ⟨rfl, hb⟩
  have E5 := Lib.hid (E4.out.next hb)
  have P5 := Lib.hid (P4.out.next hb)
  have U5 := Lib.hid (U4.out.next hb)
  clear hb E4 P4 U4
  go_wp2_with fail
  have ba : Below w5.heap.size w5 (w5.alloc (.cells #[.int .i64 x0, .int .i64 x1, .int .i64 x2, .int .i64 x3, .int .i64 x4, .int .i64 x5, .int .i64 x6, .int .i64 x7, .int .i64 x8] 30)) := (Below.refl _ _).alloc (Nat.le_refl _) _
  have hn := Nine.new w5 30 #[.int .i64 x0, .int .i64 x1, .int .i64 x2, .int .i64 x3, .int .i64 x4, .int .i64 x5, .int .i64 x6, .int .i64 x7, .int .i64 x8]
  generalize hg5 : w5.heap.size = g5 at hn
  refine (refSet_any s _).mono ?_
  rw [HX.out]
  rintro e w6 ⟨rfl, hb⟩
  have E6 := Lib.hid ((E5.out.next ba).next hb)
  have P6 := Lib.hid ((P5.out.next ba).next hb)
  have U6 := Lib.hid ((U5.out.next ba).next hb)
  have N6 := Lib.hid (hn.next hb)
  clear hb E5 P5 U5 ba hn hg5
  go_wp2_with fail
  have ba : Below w6.heap.size w6 (w6.alloc (.cells #[.int .i64 x0, .int .i64 x1, .int .i64 x2, .int .i64 x3, .int .i64 x4, .int .i64 x5, .int .i64 x6, .int .i64 x7, .int .i64 x8] 33)) := (Below.refl _ _).alloc (Nat.le_refl _) _
  have hn := Nine.new w6 33 #[.int .i64 x0, .int .i64 x1, .int .i64 x2, .int .i64 x3, .int .i64 x4, .int .i64 x5, .int .i64 x6, .int .i64 x7, .int .i64 x8]
  generalize hg6 : w6.heap.size = g6 at hn
  refine (P.sizes s _).mono ?_
  rintro e w7 ⟨rfl, hb⟩
  have E7 := Lib.hid ((E6.out.next ba).next hb)
  have P7 := Lib.hid ((P6.out.next ba).next hb)
  have U7 := Lib.hid ((U6.out.next ba).next hb)
  have N7 := Lib.hid ((N6.out.next ba).next hb)
  have M7 := Lib.hid (hn.next hb)
  clear hb E6 P6 U6 N6 ba hn hg6
  go_wp2_with fail
  refine (refSizes_any s _).mono ?_
  rintro e w8 ⟨rfl, hb⟩
  have E8 := Lib.hid (E7.out.next hb)
  have P8 := Lib.hid (P7.out.next hb)
  have U8 := Lib.hid (U7.out.next hb)
  have N8 := Lib.hid (N7.out.next hb)
  have M8 := Lib.hid (M7.out.next hb)
  clear hb E7 P7 U7 N7 M7
  go_wp2_with fail
  refine (refNear_any a b A c _ f w8 rfl (E8.out.hf.mono E8.out.s1) (by omega)).mono ?_
  rintro e w9 ⟨Aq, cq, rfl, ho, hb⟩
  have E9 := Lib.hid (E8.out.next hb)
  have P9 := Lib.hid (P8.out.next hb)
  have U9 := Lib.hid (U8.out.next hb)
  have N9 := Lib.hid (N8.out.next hb)
  have M9 := Lib.hid (M8.out.next hb)
  have Q9 := Lib.hid (Mine.of ho hb)
  clear ho hb E8 P8 U8 N8 M8
  go_wp2_with fail
  refine (sameB_eq Ap Aq cp cq _ _ (nearI a b f) (nearI a b f) w9 rfl rfl rfl (near_len a b f) P9.out.read Q9.out.read).mono ?_
  rintro e w10 ⟨rfl, hb⟩
  have E10 := Lib.hid (E9.out.next hb)
  have P10 := Lib.hid (P9.out.next hb)
  have U10 := Lib.hid (U9.out.next hb)
  have N10 := Lib.hid (N9.out.next hb)
  have M10 := Lib.hid (M9.out.next hb)
  clear hb E9 P9 U9 N9 M9 Q9
  go_wp2_with fail
  refine (refFar_any a b A' c' _ g w10 rfl (E10.out.hg.mono E10.out.s1) HFIT.out (by omega)).mono ?_
  rintro e w11 ⟨Av, cv, rfl, ho, hb⟩
  have E11 := Lib.hid (E10.out.next hb)
  have P11 := Lib.hid (P10.out.next hb)
  have U11 := Lib.hid (U10.out.next hb)
  have N11 := Lib.hid (N10.out.next hb)
  have M11 := Lib.hid (M10.out.next hb)
  have V11 := Lib.hid (Mine.of ho hb)
  clear ho hb E10 P10 U10 N10 M10
  go_wp2_with fail
  refine (same_eq Au Av cu cv _ _ (farI a b g) (farI a b g) w11 rfl rfl rfl (far_len a b g) U11.out.read V11.out.read).mono ?_
  rintro e w12 ⟨rfl, hb⟩
  have E12 := Lib.hid (E11.out.next hb)
  have P12 := Lib.hid (P11.out.next hb)
  have U12 := Lib.hid (U11.out.next hb)
  have N12 := Lib.hid (N11.out.next hb)
  have M12 := Lib.hid (M11.out.next hb)
  clear hb E11 P11 U11 N11 M11 V11
  have c0 : w12.cell? ⟨g5, 0, none⟩ = some (.int .i64 x0) := N12.out.cell 0
  have d0 : w12.cell? ⟨g6, 0, none⟩ = some (.int .i64 x0) := M12.out.cell 0
  have c1 : w12.cell? ⟨g5, 1, none⟩ = some (.int .i64 x1) := N12.out.cell 1
  have d1 : w12.cell? ⟨g6, 1, none⟩ = some (.int .i64 x1) := M12.out.cell 1
  have c2 : w12.cell? ⟨g5, 2, none⟩ = some (.int .i64 x2) := N12.out.cell 2
  have d2 : w12.cell? ⟨g6, 2, none⟩ = some (.int .i64 x2) := M12.out.cell 2
  have c3 : w12.cell? ⟨g5, 3, none⟩ = some (.int .i64 x3) := N12.out.cell 3
  have d3 : w12.cell? ⟨g6, 3, none⟩ = some (.int .i64 x3) := M12.out.cell 3
  have c4 : w12.cell? ⟨g5, 4, none⟩ = some (.int .i64 x4) := N12.out.cell 4
  have d4 : w12.cell? ⟨g6, 4, none⟩ = some (.int .i64 x4) := M12.out.cell 4
  have c5 : w12.cell? ⟨g5, 5, none⟩ = some (.int .i64 x5) := N12.out.cell 5
  have d5 : w12.cell? ⟨g6, 5, none⟩ = some (.int .i64 x5) := M12.out.cell 5
  have c6 : w12.cell? ⟨g5, 6, none⟩ = some (.int .i64 x6) := N12.out.cell 6
  have d6 : w12.cell? ⟨g6, 6, none⟩ = some (.int .i64 x6) := M12.out.cell 6
  have c7 : w12.cell? ⟨g5, 7, none⟩ = some (.int .i64 x7) := N12.out.cell 7
  have d7 : w12.cell? ⟨g6, 7, none⟩ = some (.int .i64 x7) := M12.out.cell 7
  have c8 : w12.cell? ⟨g5, 8, none⟩ = some (.int .i64 x8) := N12.out.cell 8
  have d8 : w12.cell? ⟨g6, 8, none⟩ = some (.int .i64 x8) := M12.out.cell 8
  clear N12 M12
  have TS : Hid (w2.heap.size ≤ w3.heap.size ∧ w3.heap.size ≤ w4.heap.size) := ⟨S3.out, S4.out⟩
  clear S3 S4
  go_wp2_with fail
  refine (overB_any w2.heap.size cp Ap (nearI a b f) w12 P12.out (near_len a b f)).mono ?_
  rintro e w13 ⟨rfl, hgr⟩
  have hb13 : Below w2.heap.size w12 w13 := below_of_grown hgr LP.out E12.out.s1
  have E13 := Lib.hid (E12.out.low hb13)
  have U13 := Lib.hid (U12.out.kept hgr LP.out (Nat.le_refl _))
  clear hgr hb13 E12 P12 U12 c0 d0 c1 d1 c2 d2 c3 d3 c4 d4 c5 d5 c6 d6 c7 d7 c8 d8
  go_wp2_with fail
  refine (over_any w3.heap.size cu Au (farI a b g) w13 U13.out (far_len a b g)).mono ?_
  rintro e w14 ⟨rfl, hgr⟩
  have hb14 : Below w2.heap.size w13 w14 := (below_of_grown hgr LU.out U13.out.2).mono TS.out.1
  have E14 := Lib.hid (E13.out.low hb14)
  clear hgr hb14 E13 U13
  go_wp2_with fail
  refine (kept_any gi w.heap.size A c f w14 E14.out.li (E14.out.hf.mono E14.out.s1) (by omega)).mono ?_
  rintro e w15 ⟨rfl, hb⟩
  have E15 := Lib.hid (E14.out.next hb)
  clear hb E14
  go_wp2_with fail
  refine (keptB_any gb w1.heap.size A' c' g w15 E15.out.lb (E15.out.hg.mono E15.out.s1) (by omega)).mono ?_
  rintro e w16 ⟨rfl, hb⟩
  have E16 := Lib.hid (E15.out.next hb)
  clear hb E15
  go_wp2_with fail
  refine (awake_any P w16 (HH.out.below E16.out.bl)).mono ?_
  rintro e w17 ⟨rfl, hb⟩
  have B17 := Lib.hid (below_next E16.out.bl hb)
  clear hb E16
  go_wp2
  go_ret
  exact ⟨rfl, B17.out⟩
end Go.Proofs.YtoigpehpgpogfaaDoor
