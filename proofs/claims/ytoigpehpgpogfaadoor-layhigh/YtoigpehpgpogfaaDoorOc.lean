/- Several texts in one: Mj, Mk. -/
import Derived.Test.YtoigpehpgpogfaaDoorMi
/- The law LayHints, walked: its small inputs. -/
namespace Go.Proofs.YtoigpehpgpogfaaDoor
open Go.RowKit Slices Go.Proofs.YtoigpehpgpogfaaDoor.Bit

/-- what stays: both arguments -/
structure EnvH (w0 : World) (lo : Nat) (A A' : Option Addr) (es : List Ent) (b : List Int) (w : World) : Prop where
  hh : HasL w lo A es
  hb : Has .u8 w lo A' b
  bl : Below w0.heap.size w0 w
  s0 : w0.heap.size ≤ lo
  s1 : lo ≤ w.heap.size
theorem EnvH.low {w0 w w' : World} {lo : Nat} {A A' : Option Addr} {es : List Ent} {b : List Int} (h : EnvH w0 lo A A' es b w) (hb : Below lo w w') : EnvH w0 lo A A' es b w' :=
  ⟨h.hh.below hb, h.hb.below hb, h.bl.trans (hb.mono h.s0), h.s0, Nat.le_trans h.s1 hb.size⟩
theorem EnvH.next {w0 w w' : World} {lo : Nat} {A A' : Option Addr} {es : List Ent} {b : List Int} (h : EnvH w0 lo A A' es b w) (hb : Below w.heap.size w w') : EnvH w0 lo A A' es b w' := h.low (hb.mono h.s1)
theorem own_ne2 {w : World} {B B' n m : Nat} {v v' : Value} {xs ys : List Value} (h : w.ownsRow B 3 1 v n xs) (h' : w.ownsRow B' 22 1 v' m ys) : v'.ownBlock = none ∨ v'.ownBlock ≠ v.ownBlock := by
  rcases own_ne h h' with e | e
  · cases hv : v'.ownBlock with
    | none => exact .inl rfl
    | some q => exact .inr (by rw [e]; intro g; cases g)
  · exact .inr (Ne.symm e)
/-- lists of the call's own, from the k-th on as they were -/
def LeftL (B : Nat) (A : Option Addr) (c : Nat) (es : List Ent) (k : Nat) (w : World) : Prop :=
  w.ownsRow B 22 1 (.slice A es.length c) es.length (es.map eval) ∧ (∀ i (h : i < es.length), k ≤ i → Mine3 B es[i] w) ∧ B ≤ w.heap.size

set_option maxRecDepth 100000 in
set_option maxHeartbeats 8000000 in
theorem layHints_small (P : LayOk2) (s : Int) (A A' : Option Addr) (c c' : Nat) (es : List Ent) (b : List Int) (w : World) (h : HasL w w.heap.size A es) (hb : Has .u8 w w.heap.size A' b) (hfit : Fit 8 b) (hn : es.length ≤ 10) (hl : ∀ i (h : i < es.length), es[i].l.length ≤ 300) (h2 : b.length ≤ 300) (hcap : b.length ≤ c') (hh : Han w) :
    Calls Tryd.prog 5 #[.int .i64 s, .slice A es.length c, .slice A' b.length c'] w fun e w' => e = .returned (.bool true) ∧ Below w.heap.size w w' := by
  have E0 : Hid (EnvH w w.heap.size A A' es b w) := ⟨h, hb, Below.refl _ _, Nat.le_refl _, Nat.le_refl _⟩
  have HL : Hid (∀ i (h : i < es.length), es[i].l.length ≤ 4000) := fun i h => by have := hl i h; omega
  have HL3 := Lib.hid hl
  have HFIT := Lib.hid hfit
  have HH := Lib.hid hh
  have HCAP := Lib.hid hcap
  clear h hb hfit hl hh hcap
  go_enter Tryd.func5, Tryd.ntmps5
  go_wp2_with (go_at_call 26; refine (great_no _ _ _ es _ E0.out.hh hn HL3.out).mono ?_; rintro e w' ⟨rfl, rfl⟩)
  refine (P.hints s A c es w E0.out.hh (by omega) HL.out).mono ?_
  rintro e w1 ⟨Ax, cx, v1, rfl, ho, hv, hbl⟩
  have E1 := Lib.hid (E0.out.next hbl)
  have X1 := Lib.hid (Mine.of ho hbl)
  have V1 := Lib.hid hv
  have LX := Lib.hid X1.out.lies
  have S1 : Hid (w.heap.size ≤ w1.heap.size) := hbl.size
  clear ho hv hbl
  go_wp2_with fail
  refine (refHints_any s A c es w1 (E1.out.hh.mono E1.out.s1) (by omega) HL.out).mono ?_
  rintro e w2 ⟨Ay, cy, rfl, ho, hbl⟩
  have E2 : Hid (EnvH w w2.heap.size A A' es b w2) := ⟨(E1.out.next hbl).hh.mono (E1.out.next hbl).s1, (E1.out.next hbl).hb.mono (E1.out.next hbl).s1, (E1.out.next hbl).bl, (E1.out.next hbl).bl.size, Nat.le_refl _⟩
  have X2 := Lib.hid (X1.out.next hbl)
  have V2 := Lib.hid (V1.out.next hbl)
  have Y2 := Lib.hid (Mine.of ho hbl)
  have S2 : Hid (w1.heap.size ≤ w2.heap.size) := hbl.size
  clear ho hbl E1 X1 V1
  go_wp2_with fail
  refine (P.unhint s A' c' b w2 (E2.out.hb.mono E2.out.s1) HFIT.out (by omega) HCAP.out).mono ?_
  rintro e w3 ⟨Az, cz, zs, v3, rfl, hz, hal, hnz, hv, hbl⟩
  have E3 := Lib.hid (E2.out.next hbl)
  have X3 := Lib.hid (X2.out.next hbl)
  have V3 := Lib.hid (V2.out.next hbl)
  have Y3 := Lib.hid (Y2.out.next hbl)
  have Z3 := Lib.hid hz
  have R3 := Lib.hid hv
  have HAL := Lib.hid hal
  have HNZ := Lib.hid hnz
  have S3 : Hid (w2.heap.size ≤ w3.heap.size) := hbl.size
  clear hz hal hnz hv hbl E2 X2 V2 Y2
  go_wp2_with fail
  refine (refUnhint_any s A' c' b w3 (E3.out.hb.mono E3.out.s1) HFIT.out (by omega)).mono ?_
  rintro e w4 ⟨Au, cu, us, rfl, hz, hnu, hbl⟩
  have E4 := Lib.hid (E3.out.next hbl)
  have X4 := Lib.hid (X3.out.next hbl)
  have V4 := Lib.hid (V3.out.next hbl)
  have Y4 := Lib.hid (Y3.out.next hbl)
  have Z4 := Lib.hid (Z3.out.next hbl)
  have R4 := Lib.hid (R3.out.next hbl)
  have U4 := Lib.hid hz
  have HNU := Lib.hid hnu
  clear hz hnu hbl E3 X3 V3 Y3 Z3 R3
  go_wp2_with fail
  refine (P.high s A c es w4 (E4.out.hh.mono E4.out.s1) (by omega) HL.out).mono ?_
  rintro e w5 ⟨Ap, cp, v5, rfl, ho, hv, hbl⟩
  have E5 := Lib.hid (E4.out.next hbl)
  have X5 := Lib.hid (X4.out.next hbl)
  have V5 := Lib.hid (V4.out.next hbl)
  have Y5 := Lib.hid (Y4.out.next hbl)
  have Z5 := Lib.hid (Z4.out.next hbl)
  have R5 := Lib.hid (R4.out.next hbl)
  have U5 := Lib.hid (U4.out.next hbl)
  have P5 := Lib.hid (Mine.of ho hbl)
  have Q5 := Lib.hid hv
  clear ho hv hbl E4 X4 V4 Y4 Z4 R4 U4
  go_wp2_with fail
  refine (refHigh_any s A c es w5 (E5.out.hh.mono E5.out.s1) (by omega) HL.out).mono ?_
  rintro e w6 ⟨Aq, cq, rfl, ho, hbl⟩
  have E6 := Lib.hid (E5.out.next hbl)
  have X6 := Lib.hid (X5.out.next hbl)
  have V6 := Lib.hid (V5.out.next hbl)
  have Y6 := Lib.hid (Y5.out.next hbl)
  have Z6 := Lib.hid (Z5.out.next hbl)
  have R6 := Lib.hid (R5.out.next hbl)
  have U6 := Lib.hid (U5.out.next hbl)
  have P6 := Lib.hid (P5.out.next hbl)
  have Q6 := Lib.hid (Q5.out.next hbl)
  have T6 := Lib.hid (Mine.of ho hbl)
  clear ho hbl E5 X5 V5 Y5 Z5 R5 U5 P5 Q5
  go_wp2_with fail
  refine (sameB_eq Ax Ay cx cy _ _ (hB s (nums es)) (hB s (nums es)) w6 rfl rfl rfl (hB_len s _) X6.out.read Y6.out.read).mono ?_
  rintro e w7 ⟨rfl, hbl⟩
  have E7 := Lib.hid (E6.out.next hbl)
  have X7 := Lib.hid (X6.out.next hbl)
  have V7 := Lib.hid (V6.out.next hbl)
  have Z7 := Lib.hid (Z6.out.next hbl)
  have R7 := Lib.hid (R6.out.next hbl)
  have U7 := Lib.hid (U6.out.next hbl)
  have P7 := Lib.hid (P6.out.next hbl)
  have Q7 := Lib.hid (Q6.out.next hbl)
  have T7 := Lib.hid (T6.out.next hbl)
  clear hbl E6 X6 V6 Y6 Z6 R6 U6 P6 Q6 T6
  go_wp2_with fail
  refine (num_any _ v1 w7 (HH.out.below E7.out.bl) V7.out).mono ?_
  rintro e w8 ⟨rfl, hbl⟩
  have E8 := Lib.hid (E7.out.next hbl)
  have X8 := Lib.hid (X7.out.next hbl)
  have Z8 := Lib.hid (Z7.out.next hbl)
  have R8 := Lib.hid (R7.out.next hbl)
  have U8 := Lib.hid (U7.out.next hbl)
  have P8 := Lib.hid (P7.out.next hbl)
  have Q8 := Lib.hid (Q7.out.next hbl)
  have T8 := Lib.hid (T7.out.next hbl)
  clear hbl E7 X7 V7 Z7 R7 U7 P7 Q7 T7
  go_wp2_with fail
  have HLZ : Hid (zs.length ≤ 8 ∧ ∀ i (h : i < zs.length), zs[i].l.length ≤ 256) := by
    obtain ⟨q1, q2⟩ := rL_len s b
    refine ⟨by rw [← HNZ.out, nums_len] at q1; exact q1, fun i h => ?_⟩
    have := q2 i
    rw [← HNZ.out, nums_at zs h] at this
    exact this
  refine (samePolys_true Az Au cz cu w8.heap.size zs us w8 Z8.out.has U8.out.has (HNZ.out.trans HNU.out.symm) (by have := HLZ.out.1; omega) (fun i h => by have := HLZ.out.2 i h; omega)).mono ?_
  rintro e w9 ⟨rfl, n9, hw9⟩
  have hbl : Below w8.heap.size w8 w9 := by rw [hw9]; exact below_drewN (Below.refl _ _) n9
  have E9 := Lib.hid (E8.out.next hbl)
  have X9 := Lib.hid (X8.out.next hbl)
  have Z9 := Lib.hid (Z8.out.next hbl)
  have R9 := Lib.hid (R8.out.next hbl)
  have P9 := Lib.hid (P8.out.next hbl)
  have Q9 := Lib.hid (Q8.out.next hbl)
  have T9 := Lib.hid (T8.out.next hbl)
  clear hbl hw9 E8 X8 Z8 R8 U8 P8 Q8 T8
  go_wp2_with fail
  refine (num_any _ v3 w9 (HH.out.below E9.out.bl) R9.out).mono ?_
  rintro e w10 ⟨rfl, hbl⟩
  have E10 := Lib.hid (E9.out.next hbl)
  have X10 := Lib.hid (X9.out.next hbl)
  have Z10 := Lib.hid (Z9.out.next hbl)
  have P10 := Lib.hid (P9.out.next hbl)
  have Q10 := Lib.hid (Q9.out.next hbl)
  have T10 := Lib.hid (T9.out.next hbl)
  clear hbl E9 X9 Z9 R9 P9 Q9 T9
  go_wp2_with fail
  refine (sameB_eq Ap Aq cp cq _ _ (uB s (nums es)) (uB s (nums es)) w10 rfl rfl rfl (uB_len s _) P10.out.read T10.out.read).mono ?_
  rintro e w11 ⟨rfl, hbl⟩
  have E11 := Lib.hid (E10.out.next hbl)
  have X11 := Lib.hid (X10.out.next hbl)
  have Z11 := Lib.hid (Z10.out.next hbl)
  have Q11 := Lib.hid (Q10.out.next hbl)
  clear hbl E10 X10 Z10 P10 Q10 T10
  go_wp2_with fail
  refine (num_any _ v5 w11 (HH.out.below E11.out.bl) Q11.out).mono ?_
  rintro e w12 ⟨rfl, hbl⟩
  have E12 := Lib.hid (E11.out.next hbl)
  have X12 := Lib.hid (X11.out.next hbl)
  have Z12 := Lib.hid (Z11.out.next hbl)
  clear hbl E11 X11 Z11 Q11
  go_wp2_with fail
  refine (overB_any w.heap.size cx Ax (hB s (nums es)) w12 X12.out (hB_len s _)).mono ?_
  rintro e w13 ⟨rfl, hgr⟩
  have hb13 : Below w.heap.size w12 w13 := below_of_grown hgr LX.out E12.out.bl.size
  have HS12 : Hid (w1.heap.size ≤ w2.heap.size) := S2.out
  have E13 : Hid (Below w.heap.size w w13) := E12.out.bl.trans hb13
  have hleft : LeftL w2.heap.size Az cz zs 0 w13 := by
    have hne : ∀ {t : TypeId} {v : Value} {m : Nat} {xs : List Value}, w12.ownsRow w2.heap.size t 1 v m xs → v.ownBlock = none ∨ v.ownBlock ≠ (Value.slice Ax (hB s (nums es)).length cx).ownBlock := fun {t v m xs} hv => by
      cases hob : v.ownBlock with
      | none => exact .inl rfl
      | some q =>
        refine .inr fun e => ?_
        have h1 := (hv.lt q hob).1
        cases Ax with
        | none => cases e
        | some ax =>
          have e' : q = ax.block := by injection e
          have := (LX.out ax rfl).2
          have := HS12.out
          omega
    exact ⟨Z12.out.1.kept hgr (hne Z12.out.1), fun i hi _ => (Z12.out.2 _ (List.getElem_mem hi)).kept hgr (hne (Z12.out.2 _ (List.getElem_mem hi))), Nat.le_trans E12.out.s1 hgr.size⟩
  have HLEFT := Lib.hid hleft
  clear hgr hb13 hleft E12 X12 Z12
  go_wp2_with fail
  go_loopw [20] (fun i wr => ∃ k : Nat, k ≤ zs.length ∧ i = .int .i64 k ∧ LeftL w2.heap.size Az cz zs k wr ∧ Below w.heap.size w wr) (fun i _ => zs.length - (intOf i).toNat)
  case atStart => exact ⟨0, by omega, rfl, HLEFT.out, E13.out⟩
  case round =>
    obtain ⟨k, hk, rfl, hlf, hbw⟩ := hrel
    have HLF := Lib.hid hlf
    have HBW := Lib.hid hbw
    have hz8 := HLZ.out.1
    clear hlf hbw HLEFT E13
    by_cases hlt : k < zs.length
    · obtain ⟨g, cg, e, hgB⟩ := own_form HLF.out.1 (by omega)
      injection e with e1 e2 e3
      subst e1
      have hcell := HLF.out.1.cellAt k (by omega)
      rw [List.getElem?_map, List.getElem?_eq_getElem hlt] at hcell
      have hc : wr.cell? ((⟨g, 0, none⟩ : Addr).add k) = some (.slice zs[k].A zs[k].l.length zs[k].c) := by
        rw [← show (⟨g, k, none⟩ : Addr) = (⟨g, 0, none⟩ : Addr).add k by unfold Addr.add; split <;> simp_all]
        exact hcell
      have hc2 : wr.cell? ⟨g, k, none⟩ = some (.slice zs[k].A zs[k].l.length zs[k].c) := hcell
      have hm3 : Mine3 w2.heap.size zs[k] wr := HLF.out.2.1 k hlt (Nat.le_refl _)
      have HM3 := Lib.hid hm3
      have hll := HLZ.out.2 k hlt
      have HOV : Hid (Calls Tryd.prog 22 #[.slice zs[k].A zs[k].l.length zs[k].c] wr fun e w' => e = .returned (.tuple #[]) ∧ w'.heap.size ≥ wr.heap.size ∧ LeftL w2.heap.size (some ⟨g, 0, none⟩) cz zs (k + 1) w' ∧ Below w.heap.size w w') := by
        refine (over_any w2.heap.size zs[k].c zs[k].A zs[k].l wr ⟨hm3, HLF.out.2.2⟩ (by omega)).mono ?_
        rintro e w' ⟨rfl, hgr⟩
        refine ⟨rfl, hgr.size, ⟨HLF.out.1.kept hgr (own_ne2 hm3 HLF.out.1), fun i hi hki => (HLF.out.2.1 i hi (by omega)).kept hgr (HAL.out i k hi hlt (by omega)), Nat.le_trans HLF.out.2.2 hgr.size⟩, ?_⟩
        exact HBW.out.trans ((Below.refl _ wr).grown hgr HBW.out.size (fun q hq => Nat.le_trans (Nat.le_trans S1.out S2.out) (hm3.lt q hq).1))
      clear hcell hm3 HM3 e2 e3 hgB
      generalize zs[k].l.length = ln at hc hc2 hll HOV
      generalize zs[k].A = Ae at hc hc2 HOV
      generalize zs[k].c = ce at hc hc2 HOV
      go_wp2_with (go_at_call 22; refine HOV.out.mono ?_; rintro e w' ⟨rfl, _, hlf, hbw⟩; have HLF2 := Lib.hid hlf; have HBW2 := Lib.hid hbw; clear hlf hbw)
      go_roundw
      case rel => exact ⟨k + 1, by omega, by go_num, HLF2.out, HBW2.out⟩
      case measure => simp [intOf]; omega
    · go_wp2_with (go_at_call 8; refine (awake_any P.toLayOk _ (HH.out.below HBW.out)).mono ?_; rintro e w' ⟨rfl, hbl⟩; have HBF := Lib.hid (below_next HBW.out hbl); clear hbl)
      go_ret
      exact ⟨rfl, HBF.out⟩
end Go.Proofs.YtoigpehpgpogfaaDoor

/- Lists of lists that a call made, written in place. -/
namespace Go.Proofs.YtoigpehpgpogfaaDoor
open Go.RowKit Slices Go.Proofs.YtoigpehpgpogfaaDoor.Bit

theorem grown_set (w : World) (g j : Nat) (u : Value) : w.grownBy (w.setCell ⟨g, j, none⟩ u) (some g) :=
  ⟨rfl, rfl, rfl, by simp [World.setCell], fun k _ hk => Below.heap_setCell w ⟨g, j, none⟩ u k (fun e => hk (by rw [e]))⟩
/-- the entry with number j of its list another one -/
def Ent.put (e : Ent) (j : Nat) (x : Int) : Ent := ⟨e.A, e.c, e.l.set j x⟩
theorem eval_put (e : Ent) (j : Nat) (x : Int) : eval (e.put j x) = eval e := by
  unfold eval Ent.put
  rw [List.length_set]
theorem map_put (es : List Ent) (i j : Nat) (x : Int) (hi : i < es.length) : (es.set i (es[i].put j x)).map eval = es.map eval := by
  rw [List.map_set, eval_put]
  apply List.ext_getElem?
  intro k
  by_cases e : i = k
  · subst e
    rw [List.getElem?_set_self (by simpa using hi), List.getElem?_map, List.getElem?_eq_getElem hi]; rfl
  · rw [List.getElem?_set_ne e]
theorem Alone.put {es : List Ent} (h : Alone es) {i : Nat} (hi : i < es.length) (j : Nat) (x : Int) : Alone (es.set i (es[i].put j x)) := by
  have hev : ∀ k (hk : k < (es.set i (es[i].put j x)).length), eval (es.set i (es[i].put j x))[k] = eval (es[k]'(by rw [List.length_set] at hk; exact hk)) := fun k hk => by
    by_cases e : i = k
    · subst e
      rw [List.getElem_set_self, eval_put]
    · rw [List.getElem_set_ne e]
  intro a b ha hb hab
  rw [hev a ha, hev b hb]
  exact h a b _ _ hab
/-- a number of one of the lists is written -/
theorem OwnL.put {B : Nat} {v : Value} {es : List Ent} {w : World} (h : OwnL B v es w) (ha : Alone es) {i : Nat} (hi : i < es.length) {g : Nat} (hg : es[i].A = some ⟨g, 0, none⟩) (j : Nat) (x : Int) :
    OwnL B v (es.set i (es[i].put j x)) (w.setCell ⟨g, j, none⟩ (.int .i64 x)) := by
  have hm := h.2 _ (List.getElem_mem hi)
  have hm' : w.ownsRow B 3 1 (.slice (some ⟨g, 0, none⟩) es[i].l.length es[i].c) es[i].l.length (ints .i64 es[i].l) := by
    have e : eval es[i] = .slice (some ⟨g, 0, none⟩) es[i].l.length es[i].c := by unfold eval; rw [hg]
    have := hm
    unfold Mine3 at this
    rw [e] at this
    exact this
  refine ⟨?_, fun e he => ?_⟩
  · rw [List.length_set, map_put es i j x hi]
    exact h.1.kept (grown_set w g j _) (own_ne2 hm' h.1)
  · obtain ⟨k, hk, rfl⟩ := List.mem_iff_getElem.mp he
    have hk' : k < es.length := by rw [List.length_set] at hk; exact hk
    by_cases e : i = k
    · subst e
      rw [List.getElem_set_self]
      unfold Mine3
      rw [eval_put]
      show (w.setCell _ _).ownsRow B 3 1 (eval es[i]) (es[i].l.set j x).length (ints .i64 (es[i].l.set j x))
      rw [List.length_set, show eval es[i] = .slice (some ⟨g, 0, none⟩) es[i].l.length es[i].c from by unfold eval; rw [hg]]
      exact own_set hm' j x
    · rw [List.getElem_set_ne e]
      have hb : (eval es[i]).ownBlock = some g := by unfold eval; rw [hg]; rfl
      refine (h.2 _ (List.getElem_mem hk')).kept (grown_set w g j _) ?_
      rw [← hb]
      exact ha k i hk' hi (fun q => e q.symm)
theorem alone_nil : Alone [] := fun i _ hi _ _ => by cases hi
/-- one more list, in a block of its own -/
theorem Alone.push {B : Nat} {v : Value} {es : List Ent} {w : World} (ha : Alone es) (h : OwnL B v es w) {e : Ent} (he : ∀ q, (eval e).ownBlock = some q → w.heap.size ≤ q) : Alone (es ++ [e]) := by
  have hold : ∀ k (hk : k < es.length) q, (eval es[k]).ownBlock = some q → q < w.heap.size := fun k hk q hq => ((h.2 _ (List.getElem_mem hk)).lt q hq).2
  have hget : ∀ k (hk : k < (es ++ [e]).length), (∃ hk' : k < es.length, (es ++ [e])[k] = es[k]) ∨ (k = es.length ∧ (es ++ [e])[k] = e) := fun k hk => by
    by_cases g : k < es.length
    · exact .inl ⟨g, List.getElem_append_left g⟩
    · have hk2 : k = es.length := by rw [List.length_append] at hk; simp at hk; omega
      subst hk2
      exact .inr ⟨rfl, by simp⟩
  intro a b hA hB hab
  rcases hget a hA with ⟨ka, ea⟩ | ⟨ka, ea⟩ <;> rcases hget b hB with ⟨kb, eb⟩ | ⟨kb, eb⟩
  · rw [ea, eb]; exact ha a b ka kb hab
  · rw [ea, eb]
    cases hq : (eval es[a]).ownBlock with
    | none => exact .inl rfl
    | some q =>
      refine .inr fun g => ?_
      have h1 := hold a ka q hq
      have h2 := he q g.symm
      omega
  · rw [ea, eb]
    cases hq : (eval e).ownBlock with
    | none => exact .inl rfl
    | some q =>
      refine .inr fun g => ?_
      have h1 := hold b kb q g.symm
      have h2 := he q hq
      omega
  · omega
end Go.Proofs.YtoigpehpgpogfaaDoor

