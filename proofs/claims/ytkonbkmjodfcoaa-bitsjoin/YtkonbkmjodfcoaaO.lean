/- The law BitsJoin, walked. -/
import Derived.Test.YtkonbkmjodfcoaaN
namespace Go.Proofs.Ytkonbkmjodfcoaa
open Go.RowKit Slices Go.Proofs.Ytkonbkmjodfcoaa.Bit

/-- as many numbers as are asked for, of any, one behind the other and round about -/
def round (D : Nat) (l : List Int) (N : Nat) : List Int := (List.range N).map fun k => low (IntKind.i64.wrap (l.getD (k % l.length) 0 + (k : Int))) (2 ^ D)
theorem round_len (D : Nat) (l : List Int) (N : Nat) : (round D l N).length = N := by simp [round]
theorem round_at {D : Nat} {l : List Int} {N k : Nat} (h : k < N) : (round D l N).getD k 0 = low (IntKind.i64.wrap (l.getD (k % l.length) 0 + (k : Int))) (2 ^ D) := by
  simp [round, List.getD_eq_getElem?_getD, List.getElem?_range h]
theorem round_fit (D : Nat) (l : List Int) (N : Nat) : Fit D (round D l N) := fun i hi => by
  rw [round_len] at hi
  rw [round_at hi]
  exact ⟨low_lo _ (pow_pos1 D), low_hi _ (pow_pos1 D)⟩
theorem fit_app {D : Nat} {l m : List Int} (hl : Fit D l) (hm : Fit D m) : Fit D (l ++ m) := fun i hi => by
  rw [List.length_append] at hi
  rw [List.getD_eq_getElem?_getD]
  by_cases h : i < l.length
  · rw [List.getElem?_append_left h, ← List.getD_eq_getElem?_getD]; exact hl i h
  · rw [List.getElem?_append_right (by omega), ← List.getD_eq_getElem?_getD]; exact hm _ (by omega)
theorem nat_app (l m : List Int) : nat (l ++ m) = nat l ++ nat m := by simp [nat]
/-- both parts, one behind the other -/
theorem join_app {D M : Nat} {X : List Int} (Y : List Int) (hD : 0 < D) (hX : X.length = 8 * M) : int (packN D (nat (X ++ Y))) = int (packN D (nat X)) ++ int (packN D (nat Y)) := by
  rw [nat_app, pack_app hD (nat Y) (q := D * M) (by rw [nat_len, hX, ← Nat.mul_assoc, ← Nat.mul_assoc, Nat.mul_comm D 8]), int_app]
theorem join_len {D M : Nat} {X : List Int} (hX : X.length = 8 * M) : (int (packN D (nat X))).length = D * M := by
  rw [int_len, packN_len, nat_len, hX, show D * (8 * M) = 8 * (D * M) by rw [← Nat.mul_assoc, ← Nat.mul_assoc, Nat.mul_comm D 8]]
  omega

/-- append onto what the call made, whatever is appended, behind a guard that holds -/
theorem append_on {P : Program} (w : World) {ops : Array Oper} {rest : List Oper} {o : Oper} {a : Act} {Q : Exit → Act → World → Prop} (hw : Region.wanted o (yielded ops a.tmps) = true) (s x : Operand) (t : TypeId)
    (ho : o.op = .call { callee := .builtin .append, args := #[s, x], argTypes := #[t, t] })
    (base : Nat) (e : TypeId) (i : TypeInfo) (z : Value) (size bytes : Nat) (ht : P.underlying t = some (.slice e)) (hi : P.info? e = some i) (hz : i.zero = some z)
    (hsize : i.size = size) (hby : i.bytes = bytes) (hzs : z.cells.size = size) (hsz : 0 < size)
    (v : Value) (n : Nat) (xs : List Value) (hs : a.eval s = v) (hown : w.ownsRow base e size v n xs)
    (ao : Option Addr) (m c : Nat) (news : List Value) (hx : a.eval x = .slice ao m c) (hl : news.length = m * size) (hnone : ao = none → m = 0 ∧ c = 0) (hnews : ∀ ad, ao = some ad → ∀ j u, news[j]? = some u → w.cell? (ad.add j) = some u) (h1 : ∀ u ∈ news, u.oneCell' = true)
    (h63 : n + m ≤ maxLen) (hbytes : (n + m) * bytes ≤ 140737488355328) (hbase : base ≤ w.heap.size)
    (h : ∀ v' w', w'.ownsRow base e size v' (n + m) (xs ++ news) → w.grownBy w' v.ownBlock → wpList P ops Q rest (a.put o.dst v') w') : wpList P ops Q (o :: rest) a w := by
  refine wpList_step fun K hK => ?_
  rw [if_pos hw]
  cases ao with
  | some ad => exact wp_append_own w s x t ho base e i z size bytes ht hi hz hsize hby hzs hsz v n xs hs hown ad m c news hx hl (hnews ad rfl) h1 h63 hbytes hbase fun v' w' a b _ => hK _ _ (h v' w' a b)
  | none =>
    obtain ⟨rfl, rfl⟩ := hnone rfl
    have hn : news = [] := List.eq_nil_of_length_eq_zero (by simpa using hl)
    subst hn
    have hrun := run_append_owned_none (P := P) (w := w) base t o.type e i size ht hi v n xs hown
    unfold Oper.wp
    simp [execOp, ho, resolve, invoke, builtin, hs, hx, hrun, Result.andThen]
    exact hK _ _ (h v w (by simpa using hown) (World.grownBy.refl _ _))

set_option maxRecDepth 100000 in
set_option maxHeartbeats 4000000 in
theorem join_small (d : Int) (A A' : Option Addr) (c c' : Nat) (f g : List Int) (many : Int) (w : World) (hf : Has .i64 w w.heap.size A f) (hg : Has .i64 w w.heap.size A' g) (h0 : 1 ≤ f.length) (h1 : f.length ≤ 200) (h2 : g.length ≤ 60) :
    Calls Try.prog 6 #[.int .i64 d, .slice A f.length c, .slice A' g.length c', .int .i64 many] w fun e w' => e = .returned (.bool true) ∧ Below w.heap.size w w' := by
  obtain ⟨i0, hi0, hz0, hz1, hz2⟩ := info_parts Try.info3
  obtain ⟨j0, hj0, hy0, hy1, hy2⟩ := info_parts Try.info5
  have HF := Lib.hid hf
  have HG := Lib.hid hg
  clear hf hg
  obtain ⟨E, hE⟩ := Int.eq_ofNat_of_zero_le (low_lo d (n := 24) (by omega))
  have hE1 := low_hi d (n := 24) (by omega)
  rw [hE] at hE1
  obtain ⟨M, hM⟩ := Int.eq_ofNat_of_zero_le (low_lo many (n := 9) (by omega))
  have hM1 := low_hi many (n := 9) (by omega)
  rw [hM] at hM1
  have hM8 : M ≤ 8 := by omega
  obtain ⟨D, hD⟩ : ∃ D : Nat, D = 1 + E := ⟨_, rfl⟩
  have hD1 : 1 ≤ D := by omega
  have hD2 : D ≤ 24 := by omega
  have hDI : (1 : Int) + (E : Int) = (D : Int) := by omega
  clear hD
  obtain ⟨P, hP⟩ : ∃ P : Int, (2 : Int) ^ D = P := ⟨_, rfl⟩
  have p0 : 1 ≤ P := by rw [← hP]; exact pow_pos1 D
  have p1 : P ≤ 16777216 := by rw [← hP, pow_cast]; have := pow_le24 hD2; omega
  have sp : IntKind.i64.wrap P = P := IntWalk.i64_in _ (by omega)
  have HLN := Lib.hid (lows_len D g)
  have HRN := Lib.hid (round_len D f (8 * M))
  have z0 : ((f.length : Int) == 0) = false := by rw [beq_eq_false_iff_ne]; omega
  go_enter Try.func6, Try.ntmps6
  go_wp2_with fail
  refine (lawLow_any d 24 w (by omega) (by omega)).mono ?_
  rw [hE]
  rintro e w' ⟨rfl, rfl⟩
  clear hE hE1
  go_wp2_with fail
  refine (lawLow_any many 9 w (by omega) (by omega)).mono ?_
  rw [hM]
  rintro e w' ⟨rfl, rfl⟩
  clear hM hM1
  go_wp2
  go_loopw [9, 11] (fun v i wr => ∃ k : Nat, k ≤ 8 * M ∧ i = .int .i64 k ∧ XRow w.heap.size w (round D f (8 * M)) k v wr) (fun _ i _ => 8 * M - (intOf i).toNat)
  case atStart => exact ⟨0, by omega, rfl, World.ownsRow_nil _ _ _ _, Below.refl _ _, Nat.le_refl _, Nat.le_refl _⟩
  case round =>
    obtain ⟨k, hk, rfl, hr⟩ := hrel
    have HR := Lib.hid hr
    clear hr
    by_cases hlt : k < 8 * M
    · obtain ⟨r, hrr, hrl⟩ : ∃ r : Nat, r = k % f.length ∧ r < f.length := ⟨_, rfl, Nat.mod_lt _ (by omega)⟩
      obtain ⟨a, rfl, hab, ha⟩ := (HF.out.below HR.out.2.1) r hrl
      have hba : (a.add r).block < w.heap.size := by rw [add_block]; exact hab
      have HV : Hid (low (IntKind.i64.wrap (f.getD r 0 + (k : Int))) P = (round D f (8 * M)).getD k 0) := by show low _ P = _; rw [round_at hlt, hP, hrr]
      have sr : (k : Int).tmod (f.length : Int) = (r : Int) := by rw [Int.tmod_eq_emod_of_nonneg (by omega), hrr]; simp
      generalize f.getD r 0 = X at ha HV
      have sr2 : k % f.length = r := hrr.symm
      clear hrr
      obtain ⟨Y, hY⟩ : ∃ Y, IntKind.i64.wrap (X + (k : Int)) = Y := ⟨_, rfl⟩
      rw [hY] at HV
      have hown := HR.out.1
      have hsz : w.heap.size ≤ wr.heap.size := HR.out.2.2.2
      have hi1 : (r : Int) < (f.length : Int) := by omega
      have hi0' : (0 : Int) ≤ (r : Int) := Int.natCast_nonneg _
      have hz : ¬ (f.length : Int) = 0 := by omega
      have hz' : ¬ f = [] := fun e => by rw [e] at h0; simp at h0
      have na : u9.ownBlock ≠ some (a.add r).block := fun e => by have := (hown.lt _ e).1; omega
      have HOW := Lib.hid hown
      clear hown
      go_wp2_with fail
      go_region_held3 (fun w' => w'.cell? (a.add r) = some (.int .i64 X))
        (first
          | go_keep
          | (rw [hgrow.cell_far _ (by simp; omega) (Ne.symm na)]; assumption))
        (first
          | (go_at_call 25; refine (lawLow_any Y P _ p0 (by omega)).mono ?_; rintro e w' ⟨rfl, rfl⟩)
          | (refine step_append_lies _ (by rfl) _ _ _ (by rfl) w.heap.size 3 i0 _ 1 8 Try.underlying22 hi0 hz0 hz1 hz2 rfl (by omega) u9 k _ (by rfl) ((HOW.out.alloc _).drew) ⟨wr.heap.size, 0, none⟩ 1 1 [.int .i64 (low Y P)] (by rfl) (by rfl) (World.news_of_block (cs := #[.int .i64 (low Y P)]) (t := 3) (fr := (0, 0)) (heap_alloc_new wr _)) (by simp [Value.oneCell']) (by omega) (by unfold maxLen; omega) (by omega) (by simp; omega) (wr.heap.size + 1) (by simp) ?_; intro gg cap w3 hown3 hgrow hat hlt'))
      have hB : Below w.heap.size wr w3 := (((Below.refl _ wr).alloc hsz _).drew).grown hgrow (by simp; omega) (fun j hj => (HOW.out.lt j hj).1)
      have HN := Lib.hid (HR.out.more (by rw [HRN.out]; exact hlt) HV.out hown3 hB)
      clear hown3 hgrow hat hlt' na HOW hB
      go_wp2
      go_roundw
      case rel => exact ⟨k + 1, by omega, by go_num, HN.out⟩
      case measure => simp [intOf]; omega
    · obtain ⟨Ax, cx, rfl, hmx⟩ := HR.out.all (by rw [HRN.out]; omega)
      have X0 := Lib.hid hmx
      have B0 := Lib.hid HR.out.2.1
      clear hmx HR
      rw [HRN.out]
      have HXF := Lib.hid (round_fit D f (8 * M))
      generalize round D f (8 * M) = X at HRN X0 HXF
      obtain ⟨w1, hw1⟩ : ∃ w1, w1 = wr := ⟨_, rfl⟩
      subst hw1
      have HG1 := Lib.hid (has_next HG.out B0.out)
      clear z0
      go_wp2
      go_loopw [10, 12] (fun v i wj => ∃ j : Nat, j ≤ g.length ∧ i = .int .i64 j ∧ XRow w1.heap.size w1 (lows D g) j v wj) (fun _ i _ => g.length - (intOf i).toNat)
      case atStart => exact ⟨0, by omega, rfl, World.ownsRow_nil _ _ _ _, Below.refl _ _, Nat.le_refl _, Nat.le_refl _⟩
      case round =>
        obtain ⟨j, hj, rfl, hr⟩ := hrel
        have HR := Lib.hid hr
        clear hr
        by_cases hlt : j < g.length
        · obtain ⟨a, rfl, hab, ha⟩ := (HG1.out.below HR.out.2.1) j hlt
          have hba : (a.add j).block < w1.heap.size := by rw [add_block]; exact hab
          have HV : Hid (low (g.getD j 0) P = (lows D g).getD j 0) := by show low (g.getD j 0) P = _; rw [lows_at hlt, hP]
          generalize g.getD j 0 = Z at ha HV
          have hown := HR.out.1
          have hsz : w1.heap.size ≤ wr.heap.size := HR.out.2.2.2
          have hi1 : (j : Int) < (g.length : Int) := by omega
          have hi0' : (0 : Int) ≤ (j : Int) := Int.natCast_nonneg _
          have na : u10.ownBlock ≠ some (a.add j).block := fun e => by have := (hown.lt _ e).1; omega
          have HOW := Lib.hid hown
          clear hown
          go_wp2_with fail
          go_region_held3 (fun w' => w'.cell? (a.add j) = some (.int .i64 Z))
            (first
              | go_keep
              | (rw [hgrow.cell_far _ (by simp; omega) (Ne.symm na)]; assumption))
            (first
              | (go_at_call 25; refine (lawLow_any Z P _ p0 (by omega)).mono ?_; rintro e w' ⟨rfl, rfl⟩)
              | (refine step_append_lies _ (by rfl) _ _ _ (by rfl) w1.heap.size 3 i0 _ 1 8 Try.underlying22 hi0 hz0 hz1 hz2 rfl (by omega) u10 j _ (by rfl) ((HOW.out.alloc _).drew) ⟨wr.heap.size, 0, none⟩ 1 1 [.int .i64 (low Z P)] (by rfl) (by rfl) (World.news_of_block (cs := #[.int .i64 (low Z P)]) (t := 3) (fr := (0, 0)) (heap_alloc_new wr _)) (by simp [Value.oneCell']) (by omega) (by unfold maxLen; omega) (by omega) (by simp; omega) (wr.heap.size + 1) (by simp) ?_; intro gg cap w3 hown3 hgrow hat hlt'))
          have hB : Below w1.heap.size wr w3 := (((Below.refl _ wr).alloc hsz _).drew).grown hgrow (by simp; omega) (fun j hj => (HOW.out.lt j hj).1)
          have HN := Lib.hid (HR.out.more (by rw [HLN.out]; exact hlt) HV.out hown3 hB)
          clear hown3 hgrow hat hlt' na HOW hB
          go_wp2
          go_roundw
          case rel => exact ⟨j + 1, by omega, by go_num, HN.out⟩
          case measure => simp [intOf]; omega
        · obtain ⟨Ay, cy, rfl, hmy⟩ := HR.out.all (by rw [HLN.out]; omega)
          have X2 := Lib.hid (X0.out.next HR.out.2.1)
          have Y2 := Lib.hid hmy
          have B2 := Lib.hid (below_next B0.out HR.out.2.1)
          have S02 : Hid (w.heap.size ≤ wr.heap.size) := B2.out.size
          clear hmy HR X0 B0 HG1 HG HF
          rw [HLN.out]
          have HYF := Lib.hid (lows_fit D g)
          generalize lows D g = Y at HLN Y2 HYF
          obtain ⟨NG, hNG⟩ : ∃ NG, g.length = NG := ⟨_, rfl⟩
          rw [hNG] at h2 HLN hlt hj ⊢
          clear hNG
          obtain ⟨NX, hNX⟩ : ∃ NX : Nat, 8 * M = NX := ⟨_, rfl⟩
          have HNX := Lib.hid hNX
          have nx : NX ≤ 64 := by omega
          rw [hNX] at HRN ⊢
          clear hNX
          obtain ⟨NA, hNA, hNA1⟩ : ∃ NA : Nat, (D : Int) * (M : Int) = (NA : Int) ∧ NA = D * M := ⟨D * M, by simp, rfl⟩
          have na1 : NA ≤ 192 := by
            have : D * M ≤ 24 * 8 := Nat.mul_le_mul hD2 hM8
            omega
          have HLA : Hid ((int (packN D (nat X))).length = NA) := by show (int (packN D (nat X))).length = NA; rw [join_len (M := M) (by rw [HRN.out, HNX.out]), hNA1]
          have HJA := Lib.hid (join_app (D := D) (M := M) (X := X) Y (by omega) (by rw [HRN.out, HNX.out]))
          clear hNA1
          obtain ⟨NB, hNB⟩ : ∃ NB, (int (packN D (nat Y))).length = NB := ⟨_, rfl⟩
          have nb1 : NB ≤ 200 := by
            rw [← hNB, int_len, packN_len, nat_len, HLN.out]
            have : D * NG ≤ 24 * 60 := Nat.mul_le_mul hD2 h2
            omega
          have HLB := Lib.hid hNB
          clear hNB
          go_wp2_with fail
          refine (pack_any D Ax cx _ X wr HRN.out.symm X2.out.read (by rw [HRN.out]; omega)).mono ?_
          rw [packI_yes hD1 hD2 HXF.out]
          rintro e w2 ⟨Aa, ca, rfl, ho, hb⟩
          have A2 := Lib.hid (Mine.of ho hb)
          have LA := Lib.hid A2.out.lies
          have X3 := Lib.hid (X2.out.next hb)
          have Y3 := Lib.hid (Y2.out.next hb)
          have B3 := Lib.hid (below_next B2.out hb)
          clear ho hb X2 Y2 B2
          rw [HLA.out]
          go_wp2_with fail
          refine (pack_any D Ay cy _ Y w2 HLN.out.symm Y3.out.read (by rw [HLN.out]; omega)).mono ?_
          rw [packI_yes hD1 hD2 HYF.out]
          rintro e w3 ⟨Ab, cb, rfl, ho, hb⟩
          have A4 := Lib.hid (A2.out.next hb)
          have D4 := Lib.hid (Mine.of ho hb)
          have X4 := Lib.hid (X3.out.next hb)
          have Y4 := Lib.hid (Y3.out.next hb)
          have B4 := Lib.hid (below_next B3.out hb)
          have S23 : Hid (w2.heap.size ≤ w3.heap.size) := hb.size
          clear ho hb X3 Y3 B3 A2
          rw [HLB.out]
          go_wp2_with (first
            | (at_builtin; refine append_any w3 rfl _ _ 22 rfl w3.heap.size 3 i0 (.int .i64 0) 1 8 Try.underlying22 hi0 hz0 hz1 hz2 rfl (by decide) _ 0 [] rfl (World.ownsRow_nil _ _ _ _) Ax NX cx (ints .i64 X) rfl (by rw [ints_length, HRN.out, Nat.mul_one]) (fun h => by have := own_none X4.out.1 h; rw [HRN.out] at this; exact this) X4.out.read.cells (ints_one _ _) (by unfold maxLen; omega) (by omega) (Nat.le_refl _) ?_; intro v1 w4 hown hgrow; have HO1 := Lib.hid hown; have HG1 := Lib.hid hgrow; clear hown hgrow; have H45 := Lib.hid ((Below.refl w3.heap.size w3).grown HG1.out (Nat.le_refl _) (fun j hj => by cases hj)); have S45 : w3.heap.size ≤ w4.heap.size := HG1.out.size; have Y5 := Lib.hid (Y4.out.next H45.out))
            | (at_builtin; refine append_any w4 rfl _ _ 22 rfl w3.heap.size 3 i0 (.int .i64 0) 1 8 Try.underlying22 hi0 hz0 hz1 hz2 rfl (by decide) v1 (0 + NX) _ rfl HO1.out Ay NG cy (ints .i64 Y) rfl (by rw [ints_length, HLN.out, Nat.mul_one]) (fun h => by have := own_none Y5.out.1 h; rw [HLN.out] at this; exact this) Y5.out.read.cells (ints_one _ _) (by unfold maxLen; omega) (by omega) S45 ?_; intro v2 w5 hown hgrow; have HO2 := Lib.hid hown; have HG2 := Lib.hid hgrow; clear hown hgrow))
          have ho2 : w5.ownsRow w3.heap.size 3 1 v2 (NX + NG) (ints .i64 (X ++ Y)) := by
            have := HO2.out
            rw [List.nil_append, ← ints_app, Nat.zero_add] at this
            exact this
          have hb35 : Below w3.heap.size w3 w5 := H45.out.grown HG2.out S45 (fun j hj => (HO1.out.lt j hj).1)
          obtain ⟨Ac, cc, rfl⟩ := own_slice ho2
          have HLC : Hid ((X ++ Y).length = NX + NG) := by show (X ++ Y).length = NX + NG; rw [List.length_append, HRN.out, HLN.out]
          have C5 : Hid (Has .i64 w5 w5.heap.size Ac (X ++ Y)) := by
            have h' := ho2
            rw [← HLC.out] at h'
            exact own_read h'
          have A5 := Lib.hid (A4.out.next hb35)
          have D5 := Lib.hid (D4.out.next hb35)
          have B5 := Lib.hid (below_next B4.out hb35)
          clear ho2 HO1 HO2 HG1 HG2 H45 Y5 X4 Y4 A4 D4 B4
          have S35 : Hid (w3.heap.size ≤ w5.heap.size) := hb35.size
          clear hb35 S45
          have e0 : 0 + NX + NG = NX + NG := by omega
          go_wp2_with fail
          refine (pack_any D Ac cc _ (X ++ Y) w5 HLC.out.symm C5.out (by rw [HLC.out]; omega)).mono ?_
          rw [packI_yes hD1 hD2 (fit_app HXF.out HYF.out), HJA.out]
          rintro e w6 ⟨Az, cz, rfl, ho, hb⟩
          have A6 := Lib.hid (A5.out.next hb)
          have D6 := Lib.hid (D5.out.next hb)
          have C6 := Lib.hid (Mine.of ho hb)
          have B6 := Lib.hid (below_next B5.out hb)
          clear ho hb A5 D5 B5 C5 HXF HYF HJA
          generalize int (packN D (nat X)) = pa at HLA A6 C6 LA
          generalize int (packN D (nat Y)) = pb at HLB D6 C6
          have S6 : Hid (wr.heap.size ≤ w6.heap.size) := A6.out.2
          have oa := A6.out.1
          rw [HLA.out] at oa
          have OA := Lib.hid oa
          have hsz6 : wr.heap.size ≤ w6.heap.size := S6.out
          clear oa
          have HLZ : Hid ((pa ++ pb).length = NA + NB) := by show (pa ++ pb).length = NA + NB; rw [List.length_append, HLA.out, HLB.out]
          rw [HLZ.out]
          go_wp2_with (at_builtin; refine append_on w6 (by rfl) _ _ 23 rfl wr.heap.size 5 j0 (.int .u8 0) 1 1 Try.underlying23 hj0 hy0 hy1 hy2 rfl (by decide) _ NA _ rfl OA.out Ab NB cb (ints .u8 pb) rfl (by rw [ints_length, HLB.out, Nat.mul_one]) (fun h => by have := own_none D6.out.1 h; rw [HLB.out] at this; exact this) D6.out.read.cells (ints_one _ _) (by unfold maxLen; omega) (by omega) hsz6 ?_; intro v3 w7 hown hgrow; have HO3 := Lib.hid hown; have HG3 := Lib.hid hgrow; clear hown hgrow)
          have ho3 : w7.ownsRow wr.heap.size 5 1 v3 (NA + NB) (ints .u8 (pa ++ pb)) := by rw [ints_app]; exact HO3.out
          obtain ⟨A3, c3, rfl⟩ := own_slice ho3
          have R3 : Hid (Has .u8 w7 w7.heap.size A3 (pa ++ pb)) := by
            have h' := ho3
            rw [← HLZ.out] at h'
            exact own_read h'
          have C7 := Lib.hid (C6.out.kept HG3.out LA.out (Nat.le_trans S23.out S35.out))
          have B7 := Lib.hid (B6.out.trans ((below_of_grown HG3.out LA.out hsz6).mono S02.out))
          clear ho3 HO3 HG3 C6 B6 A6 D6 OA
          go_wp2_with fail
          refine (sameB_eq A3 Az c3 cz _ _ (pa ++ pb) (pa ++ pb) w7 rfl HLZ.out.symm HLZ.out.symm (by rw [HLZ.out]; omega) R3.out C7.out.read).mono ?_
          rintro e w8 ⟨rfl, hb⟩
          have B8 := Lib.hid (below_next B7.out hb)
          clear hb R3 C7 B7
          go_wp2_with fail
          refine (awake_any w8).mono ?_
          rintro e w9 ⟨rfl, hb⟩
          have B9 := Lib.hid (below_next B8.out hb)
          clear hb B8
          go_wp2
          go_ret
          exact ⟨rfl, B9.out⟩
end Go.Proofs.Ytkonbkmjodfcoaa
