/- The law CodeReads, walked. -/
import Derived.Test.YtmegjjfgiibobaaDoorCu
namespace Go.Proofs.YtmegjjfgiibobaaDoor
open Go.RowKit Slices Go.Proofs.YtmegjjfgiibobaaDoor.Bit

/-- questions that are handed in: what each asks, its two numbers -/
def HasA (w : World) (B : Nat) (A : Option Addr) (qs : List (Int × Int × Int)) : Prop :=
  ∀ k (h : k < qs.length), ∃ a : Addr, A = some a ∧ a.block < B ∧ w.cell? (a.add (k * 3)) = some (.int .i64 qs[k].1) ∧ w.cell? (a.add (k * 3 + 1)) = some (.int .i64 qs[k].2.1) ∧ w.cell? (a.add (k * 3 + 2)) = some (.int .i64 qs[k].2.2)
theorem Rd.next {z0 g : Nat} {l : List Int} {bad : Bool} {w w' : World} (h : Rd z0 g l bad w) (hb : Below w.heap.size w w') : Rd z0 g l bad w' := by
  obtain ⟨A, c, h1, h2, h3⟩ := h
  have hg := h1.lt
  exact ⟨A, c, (hb.block g hg).trans h1, fun k hk => by
    obtain ⟨a, e, hab, hc⟩ := h2 k hk
    exact ⟨a, e, hab, (hb.cell (by rw [add_block]; omega)).trans hc⟩, h3⟩
theorem Rd.lt {z0 g : Nat} {l : List Int} {bad : Bool} {w : World} (h : Rd z0 g l bad w) : g < w.heap.size := by
  obtain ⟨A, c, h1, _⟩ := h
  exact h1.lt
/-- both readers stand alike -/
def Joint (pr : Nat → Nat → Nat → List Int → Bool → World → Prop) (B U g z0 gw : Nat) (w : World) : Prop :=
  ∃ l l2 bad, pr B U g l bad w ∧ Rd z0 gw l2 bad w ∧ Fit 8 l ∧ Fit 8 l2 ∧ l.length ≤ 600 ∧ l2.length ≤ 600 ∧ (bad = false → l = l2)

set_option maxRecDepth 100000 in
set_option maxHeartbeats 1000000 in
theorem codeReads_big {pr : Nat → Nat → Nat → List Int → Bool → World → Prop} (P : CodeOk pr) (A1 A2 : Option Addr) (n1 c1 n2 c2 : Nat) (w : World) (b1 : n1 ≤ 4611686018427387904) (b2 : n2 ≤ 4611686018427387904) (h : 600 < n1 ∨ 30 < n2) (hg : Han w) :
    Calls Tryd.prog 4 #[.slice A1 n1 c1, .slice A2 n2 c2] w fun e w' => e = .returned (.bool true) ∧ Below w.heap.size w w' := by
  have HG := Lib.hid hg
  clear hg
  by_cases h1 : 600 < n1
  · clear h
    go_enter Tryd.func4, Tryd.ntmps4
    go_wp2_with (go_at_call 8; refine (awake_any P _ HG.out).mono ?_; rintro e w' ⟨rfl, hb⟩)
    go_ret
    exact ⟨rfl, hb⟩
  · have h2 : 30 < n2 := by omega
    clear h
    go_enter Tryd.func4, Tryd.ntmps4
    go_wp2_with (go_at_call 8; refine (awake_any P _ HG.out).mono ?_; rintro e w' ⟨rfl, hb⟩)
    go_ret
    exact ⟨rfl, hb⟩

/-- what holds at each round -/
def RRel (pr : Nat → Nat → Nat → List Int → Bool → World → Prop) (w : World) (gi B U g z0 gw : Nat) (b : List Int) (wr : World) : Prop :=
  Joint pr B U g z0 gw wr ∧ LentB wr w.heap.size gi b ∧ Below w.heap.size w wr

set_option maxRecDepth 100000 in
set_option maxHeartbeats 16000000 in
theorem codeReads_small {pr : Nat → Nat → Nat → List Int → Bool → World → Prop} (P : CodeOk pr) (A1 A2 : Option Addr) (n1 c1 n2 c2 : Nat) (b : List Int) (qs : List (Int × Int × Int)) (w : World) (h1 : Base w A1 n1 c1 b) (f1 : Fit 8 b) (e2 : n2 = qs.length) (h2 : HasA w w.heap.size A2 qs) (b1 : n1 ≤ 600) (b2 : n2 ≤ 30) (hg : Han w) :
    Calls Tryd.prog 4 #[.slice A1 n1 c1, .slice A2 n2 c2] w fun e w' => e = .returned (.bool true) ∧ Below w.heap.size w w' := by
  obtain ⟨i0, hi0, hz0, hz1, hz2⟩ := info_parts Tryd.info5
  have HG := Lib.hid hg
  have H1 := Lib.hid h1
  have E1 := Lib.hid h1.1
  have F1 := Lib.hid f1
  have E2 := Lib.hid e2
  have H2 := Lib.hid h2
  clear hg h1 f1 e2 h2
  go_enter Tryd.func4, Tryd.ntmps4
  go_wp2_with fail
  refine (lend_l H1.out (by omega)).mono ?_
  rintro e w1 ⟨gi, rfl, hl, hb⟩
  have B1 := Lib.hid hb
  have L1 := Lib.hid hl
  have G1 := Lib.hid (lentB_block hl)
  clear hb hl
  go_wp2_with fail
  refine (P.new (some ⟨gi, 0, none⟩) n1 (n1 + 3) b w1 (lent_base L1.out E1.out (by omega)) F1.out).mono ?_
  rintro e w2 ⟨g, U, rfl, hp, hb⟩
  have B2 := Lib.hid (below_next B1.out hb)
  have L2 := Lib.hid (own_next L1.out hb)
  have R2 := Lib.hid hp
  have G2 := Lib.hid (P.lt _ _ _ _ _ _ hp)
  have X2 := Lib.hid (H1.out.next B2.out)
  clear hb hp L1
  go_wp2_with (at_builtin; refine append_any w2 rfl _ _ 22 rfl w2.heap.size 5 i0 (.int .u8 0) 1 1 Tryd.underlying22 hi0 hz0 hz1 hz2 rfl (by decide) _ 0 [] rfl (World.ownsRow_nil _ _ _ _) A1 n1 c1 (ints .u8 b) rfl (by rw [ints_length, Nat.mul_one]; exact E1.out.symm) X2.out.2.2.1 X2.out.2.1.cells (ints_one _ _) (by unfold maxLen; omega) (by omega) (Nat.le_refl _) ?_; intro v3 w3 hown hgr; obtain ⟨A3, c3, rfl⟩ := own_slice hown; have O3 := Lib.hid hown; have N3 : Hid (Below w2.heap.size w2 w3) := (Below.refl _ w2).grown hgr (Nat.le_refl _) (fun q hq => by cases hq); clear hown hgr)
  have eB : ([] : List Value) ++ ints .u8 b = ints .u8 b := List.nil_append _
  have O3b : Hid (w3.ownsRow w2.heap.size 5 1 (.slice A3 n1 c3) n1 (ints .u8 b)) := by have q := O3.out; rw [eB] at q; first | exact q | (simp only [Nat.zero_add] at q; exact q)
  have HS : Hid (RRel pr w gi w1.heap.size U g w2.heap.size w3.heap.size b (w3.alloc (.cells #[.slice A3 n1 c3, .bool false] 37))) := by
    have q4 := below_new w3 (.cells #[.slice A3 n1 c3, .bool false] 37)
    have q3 := below_next N3.out q4
    refine ⟨⟨b, b, false, P.next R2.out q3, ⟨A3, c3, ?_, (own_readn E1.out O3b.out).below q4, ?_, fun e => (own_none O3b.out e).2, fun a e => ?_⟩, F1.out, F1.out, ?_, ?_, fun _ => rfl⟩, own_next L2.out q3, below_next B2.out q3⟩
    · rw [← E1.out]; exact heap_alloc_new w3 _
    · rw [← E1.out]; exact own_cap O3b.out
    · subst e; exact (O3b.out.lt a.block rfl).1
    · rw [← E1.out]; omega
    · rw [← E1.out]; omega
  have GZ : Hid (U ≤ w2.heap.size ∧ w2.heap.size ≤ w3.heap.size) := ⟨G2.out.2.2, N3.out.size⟩
  have GG : Hid (w1.heap.size ≤ g ∧ g < U ∧ w.heap.size ≤ gi ∧ gi < w1.heap.size) := ⟨G2.out.1, G2.out.2.1, G1.out.1, G1.out.2⟩
  clear eB O3 O3b N3 R2 L2 B2 B1 X2 G1 G2
  generalize w3.alloc (.cells #[.slice A3 n1 c3, .bool false] 37) = w4 at HS ⊢
  generalize w3.heap.size = gw at HS GZ ⊢
  generalize w2.heap.size = z0 at HS GZ ⊢
  generalize w1.heap.size = B at HS GG ⊢
  go_loopw [8] (fun i wr => ∃ k : Nat, k ≤ n2 ∧ i = .int .i64 k ∧ RRel pr w gi B U g z0 gw b wr) (fun i _ => n2 - (intOf i).toNat)
  case atStart => exact ⟨0, Nat.zero_le _, rfl, HS.out⟩
  case round =>
    obtain ⟨k, hk, rfl, hr⟩ := hrel
    have HR := Lib.hid hr
    clear hr HS
    by_cases hlt : k < n2
    · obtain ⟨a, rfl, hab, c0, c1', c2'⟩ := H2.out k (by rw [← E2.out]; exact hlt)
      obtain ⟨d, hd⟩ : ∃ d, d = (qs[k]'(by rw [← E2.out]; exact hlt)).1 := ⟨_, rfl⟩
      obtain ⟨x, hx⟩ : ∃ x, x = (qs[k]'(by rw [← E2.out]; exact hlt)).2.1 := ⟨_, rfl⟩
      obtain ⟨y, hy⟩ : ∃ y, y = (qs[k]'(by rw [← E2.out]; exact hlt)).2.2 := ⟨_, rfl⟩
      rw [← hd] at c0
      rw [← hx] at c1'
      rw [← hy] at c2'
      clear hd hx hy
      have e0 := (HR.out.2.2.cell (by rw [add_block]; exact hab)).trans c0
      have e1 := (HR.out.2.2.cell (by rw [add_block]; exact hab)).trans c1'
      have e2 := (HR.out.2.2.cell (by rw [add_block]; exact hab)).trans c2'
      rw [← add_add14 a (k * 3) 1] at e1
      rw [← add_add14 a (k * 3) 2] at e2
      have e1b : wr.cell? ⟨(a.add (k * 3)).block, (a.add (k * 3)).off + 1, none⟩ = some (.int .i64 x) := e1
      have e2b : wr.cell? ⟨(a.add (k * 3)).block, (a.add (k * 3)).off + 2, none⟩ = some (.int .i64 y) := e2
      clear c0 c1' c2' e1 e2
      have hi2 : (k : Int) < (n2 : Int) := by omega
      have hi0' : (0 : Int) ≤ (k : Int) := Int.natCast_nonneg _
      obtain ⟨⟨l, l2, bad, jp, jr, jf, jf2, jl, jl2, je⟩, jL, jB⟩ := HR.out
      have JP : Hid (pr B U g l bad (wr.alloc (.cells #[.int .i64 d, .int .i64 x, .int .i64 y] 39))) := P.next jp (below_new _ _)
      have JR : Hid (Rd z0 gw l2 bad (wr.alloc (.cells #[.int .i64 d, .int .i64 x, .int .i64 y] 39))) := jr.next (below_new _ _)
      have JL : Hid (LentB (wr.alloc (.cells #[.int .i64 d, .int .i64 x, .int .i64 y] 39)) w.heap.size gi b) := own_next jL (below_new _ _)
      have JB : Hid (Below w.heap.size w (wr.alloc (.cells #[.int .i64 d, .int .i64 x, .int .i64 y] 39))) := below_next jB (below_new _ _)
      have JX : Hid ((wr.alloc (.cells #[.int .i64 d, .int .i64 x, .int .i64 y] 39)).heap[wr.heap.size]? = some (.cells #[.int .i64 d, .int .i64 x, .int .i64 y] 39 (0, 0))) := heap_alloc_new wr _
      have JG : Hid (gw < wr.heap.size ∧ wr.heap.size < (wr.alloc (.cells #[.int .i64 d, .int .i64 x, .int .i64 y] 39)).heap.size) := ⟨jr.lt, by simp⟩
      have HGX1 : Hid (some wr.heap.size ≠ some g) := fun e => by injection e with e; have := GG.out; have := GZ.out; have := JG.out; omega
      have HGX2 : Hid (some wr.heap.size ≠ some gw) := fun e => by injection e with e; have := JG.out; omega
      have HGR1 : Hid (∀ q, some g = some q → q < z0 ∨ gw < q) := fun q e => by injection e with e; have := GG.out; have := GZ.out; exact .inl (by omega)
      have HGR2 : Hid (∀ q, some gw = some q → q < B ∨ U ≤ q) := fun q e => by injection e with e; have := GG.out; have := GZ.out; exact .inr (by omega)
      have HZW : Hid (z0 ≤ gw) := GZ.out.2
      have HGL1 : Hid (∀ {n c : Nat}, (Value.slice (some ⟨gi, 0, none⟩) n c).ownBlock = none ∨ (Value.slice (some ⟨gi, 0, none⟩) n c).ownBlock ≠ some g) := fun {n c} => .inr fun e => by have e2 : gi = g := Option.some.inj e; have := GG.out; omega
      have HGL2 : Hid (∀ {n c : Nat}, (Value.slice (some ⟨gi, 0, none⟩) n c).ownBlock = none ∨ (Value.slice (some ⟨gi, 0, none⟩) n c).ownBlock ≠ some gw) := fun {n c} => .inr fun e => by have e2 : gi = gw := Option.some.inj e; have := GG.out; have := GZ.out; omega
      have HWG : Hid (w.heap.size ≤ g) := by have := GG.out; show _ ≤ _; omega
      have HWW : Hid (w.heap.size ≤ gw) := by have := GG.out; have := GZ.out; show _ ≤ _; omega
      have JF := Lib.hid jf
      have JF2 := Lib.hid jf2
      have JN := Lib.hid jl
      have JN2 := Lib.hid jl2
      have JE := Lib.hid je
      have JN0 : Hid (l.length ≤ 10000) := Nat.le_trans jl (by decide)
      clear jp jr jf jf2 jl jl2 je jL jB HR
      by_cases d0 : d = 0
      · have t0 : (d == 0) = true := by rw [beq_iff_eq]; exact d0
        clear d0
        go_wp2
        generalize wr.alloc (.cells #[.int .i64 d, .int .i64 x, .int .i64 y] 39) = w5 at JP JR JL JB JX JG ⊢
        generalize wr.heap.size = gx at JX JG HGX1 HGX2 ⊢
        have HF : Hid (∀ W : World, W.heap[gx]? = w5.heap[gx]? → W.cell? ⟨gx, 1, none⟩ = some (.int .i64 x) ∧ W.cell? ⟨gx, 2, none⟩ = some (.int .i64 y)) := fun W h => by
          rw [JX.out] at h
          exact ⟨cell_of_row _ _ 1 _ _ _ h, cell_of_row _ _ 2 _ _ _ h⟩
        have JPd : Hid (pr B U g l bad w5.drew) := P.next JP.out (Below.refl _ _).drew
        have JRd : Hid (Rd z0 gw l2 bad w5.drew) := JR.out.next (Below.refl _ _).drew
        have NS := Lib.hid (nv_same JE.out x y)
        obtain ⟨s1, s2⟩ := HF.out _ rfl
        go_region_held3 (fun w' => w'.cell? ⟨gx, 1, none⟩ = some (.int .i64 x) ∧ w'.cell? ⟨gx, 2, none⟩ = some (.int .i64 y))
          (first
            | (refine HF.out _ ?_; first | rfl | assumption))
          (first
            | (go_at_call 20; refine (pn_any P x y JPd.out JF.out JN0.out).mono ?_; rintro e w6 ⟨rfl, ⟨l', t', p'⟩, hgr⟩; have hx6 : w6.heap[gx]? = w5.heap[gx]? := hgr.block gx JG.out.2 HGX1.out; have JR6 := Lib.hid (JRd.out.far hgr HGR1.out HZW.out); have JG6 := Lib.hid hgr.size; have HGr6 := Lib.hid hgr; clear hgr)
            | (go_at_call 21; refine (rn_any x y JR6.out JF2.out).mono ?_; rw [NS.out.1, NS.out.2]; rintro e w7 ⟨rfl, ⟨l2', t2', r2'⟩, hgr2⟩; have hx7 : w7.heap[gx]? = w5.heap[gx]? := (hgr2.block gx (Nat.lt_of_lt_of_le JG.out.2 JG6.out) HGX2.out).trans hx6))
        have JP7 := P.far p' hgr2 HGR2.out
        have R7 := r2'
        have L7 := ((own_next JL.out (Below.refl _ _).drew).kept HGr6.out HGL1.out).kept hgr2 HGL2.out
        have B7 := below_grown (below_grown JB.out.drew HGr6.out HWG.out) hgr2 HWW.out
        clear hx6 hx7 JPd JRd JR6 JG6 HGr6 hgr2 s1 s2 HF NS p' r2'
        obtain ⟨bd, hbd⟩ : ∃ bd, bd = nb l bad x y := ⟨_, rfl⟩
        have TE : Hid (bd = false → l' = l2') := by
          show bd = false → l' = l2'
          rw [hbd]
          exact then_same JE.out nb_of (fun e => rfl) t' t2'
        have TF : Hid (Fit 8 l' ∧ Fit 8 l2' ∧ l'.length ≤ 600 ∧ l2'.length ≤ 600) := ⟨t'.1, t2'.1, Nat.le_trans t'.2.1 JN.out, Nat.le_trans t2'.2.1 JN2.out⟩
        rw [← hbd] at JP7 R7
        have JPa := Lib.hid JP7
        have JRa := Lib.hid R7
        have La := Lib.hid L7
        have Ba := Lib.hid B7
        have LQ : Hid ((if bd = true then (0 : Int) else (l2'.length : Int)) = leftI l' bd) := by
          show _ = leftI l' bd
          have h := TE.out
          unfold leftI
          cases bd with
          | true => rfl
          | false => rw [h rfl]
        have EQ : Hid ((if bd = true ∨ 0 < l2'.length then (4 : Int) else 0) = endI l' bd) := by
          show _ = endI l' bd
          have h := TE.out
          unfold endI
          cases bd with
          | true => simp
          | false => rw [h rfl]
        clear t' t2' hbd JP7 R7 L7 B7
        go_wp2_with (first
          | (go_at_call 26; refine (P.left _ U g l' bd w7 JPa.out).mono ?_; rw [← LQ.out]; rintro e w8 ⟨rfl, hb⟩; have JPb := Lib.hid (P.next JPa.out hb); have JRb := Lib.hid (JRa.out.next hb); have Lb := Lib.hid (own_next La.out hb); have Bb := Lib.hid (below_next Ba.out hb); clear hb JPa JRa La Ba)
          | (go_at_call 27; refine (refLeft_rd z0 gw l2' bd w8 JRb.out).mono ?_; generalize (if bd = true then (0 : Int) else (l2'.length : Int)) = Lv; rintro e w' ⟨rfl, rfl⟩)
          | (go_at_call 29; refine (P.ends _ U g l' bd w8 JPb.out).mono ?_; rw [← EQ.out]; rintro e w9 ⟨v9, rfl, he, hb⟩; have JPc := Lib.hid (P.next JPb.out hb); have JRc := Lib.hid (JRb.out.next hb); have Lc := Lib.hid (own_next Lb.out hb); have Bc := Lib.hid (below_next Bb.out hb); have Ec := Lib.hid he; clear hb he JPb JRb Lb Bb)
          | (go_at_call 28; refine (num_any _ v9 w9 (HG.out.below Bc.out) Ec.out).mono ?_; rintro e w10 ⟨rfl, hb⟩; have JPd2 := Lib.hid (P.next JPc.out hb); have JRd2 := Lib.hid (JRc.out.next hb); have Ld := Lib.hid (own_next Lc.out hb); have Bd := Lib.hid (below_next Bc.out hb); clear hb JPc JRc Lc Bc Ec)
          | (go_at_call 30; refine (refEnd_rd z0 gw l2' bd w10 JRd2.out).mono ?_; generalize (if bd = true ∨ 0 < l2'.length then (4 : Int) else 0) = Ev; rintro e w' ⟨rfl, rfl⟩))
        go_roundw
        case rel => exact ⟨k + 1, by omega, by go_num, ⟨l', l2', bd, JPd2.out, JRd2.out, TF.out.1, TF.out.2.1, TF.out.2.2.1, TF.out.2.2.2, TE.out⟩, Ld.out, Bd.out⟩
        case measure => simp [intOf]; omega
      · by_cases d1 : d = 1
        · have t0 : (d == 0) = false := by rw [beq_eq_false_iff_ne]; exact d0
          have t1 : (d == 1) = true := by rw [beq_iff_eq]; exact d1
          clear d0 d1
          go_wp2_with fail
          generalize wr.alloc (.cells #[.int .i64 d, .int .i64 x, .int .i64 y] 39) = w5 at JP JR JL JB JX JG ⊢
          generalize wr.heap.size = gx at JX JG HGX1 HGX2 ⊢
          have HF : Hid (∀ W : World, W.heap[gx]? = w5.heap[gx]? → W.cell? ⟨gx, 2, none⟩ = some (.int .i64 y)) := fun W h => by
            rw [JX.out] at h
            exact cell_of_row _ _ 2 _ _ _ h
          have NS := Lib.hid (bv_same JE.out y)
          have JU : Hid (U ≤ w5.heap.size ∧ gw < w5.heap.size ∧ gi < w5.heap.size) := by have := JG.out; have := GZ.out; have := GG.out; show _ ∧ _ ∧ _; omega
          have JNb : Hid ((bv l bad y).length ≤ 600) := Nat.le_trans (bv_le l bad y) JN.out
          refine (pb_any P y JP.out JF.out JN0.out).mono ?_
          rintro e w6 ⟨⟨A6, m6, c6, rfl, ho⟩, ⟨l', t', p'⟩, hgr⟩
          have O6 := Lib.hid ho
          have HM6 : Hid ((bv l bad y).length = m6) := own_len ho
          have JR6 := Lib.hid (JR.out.far hgr HGR1.out HZW.out)
          have L6 : Hid (LentB w6 w.heap.size gi b) := JL.out.kept hgr HGL1.out
          have B6 := Lib.hid (below_grown JB.out hgr HWG.out)
          have S6 := Lib.hid hgr.size
          have P6 := Lib.hid p'
          have c26 := HF.out _ (hgr.block gx JG.out.2 HGX1.out)
          clear ho hgr p' HF JP JR JL JB
          go_wp2_with fail
          refine (rb_any y JR6.out JF2.out JN2.out).mono ?_
          rw [NS.out.1, NS.out.2]
          rintro e w7 ⟨⟨A7, m7, c7, rfl, ho⟩, ⟨l2', t2', r2'⟩, hgr⟩
          have O7 := Lib.hid ho
          have HM7 : Hid ((bv l bad y).length = m7) := own_len ho
          have Oc := Lib.hid (O6.out.kept hgr (own_ne_g O6.out JU.out.2.1))
          have P7 := Lib.hid (P.far P6.out hgr HGR2.out)
          have La7 : Hid (LentB w7 w.heap.size gi b) := L6.out.kept hgr HGL2.out
          have Ba7 := Lib.hid (below_grown B6.out hgr HWW.out)
          have S7 := Lib.hid (Nat.le_trans S6.out hgr.size)
          have Ra7 := Lib.hid r2'
          clear ho hgr r2' O6 P6 L6 B6 S6 JR6 c26
          go_wp2_with fail
          refine (sameB_eq A6 A7 c6 c7 m6 m7 (bv l bad y) (bv l bad y) w7 rfl HM6.out.symm HM7.out.symm (by have := JNb.out; omega) (own_readn HM6.out.symm Oc.out) (own_readn HM7.out.symm O7.out)).mono ?_
          rintro e w8 ⟨rfl, hb⟩
          have O8 := Lib.hid (own_next Oc.out hb)
          have P8 := Lib.hid (P.next P7.out hb)
          have R8 := Lib.hid (Ra7.out.next hb)
          have L8 := Lib.hid (own_next La7.out hb)
          have B8 := Lib.hid (below_next Ba7.out hb)
          have S8 := Lib.hid (Nat.le_trans S7.out hb.size)
          clear hb O7 Oc P7 La7 Ba7 S7 Ra7
          go_wp2_with fail
          refine (over_own O8.out S8.out (by have := JNb.out; have := HM6.out; omega)).mono ?_
          rintro e w9 ⟨rfl, hgr⟩
          have HLo : Hid (∀ q, (Value.slice A6 m6 c6).ownBlock = some q → w5.heap.size ≤ q) := fun q hq => (O8.out.lt q hq).1
          have JP7 := P.far P8.out hgr (fun q hq => by have := HLo.out q hq; have := JU.out; exact .inr (by omega))
          have R7 := R8.out.far hgr (fun q hq => by have := HLo.out q hq; have := JU.out; exact .inr (by omega)) HZW.out
          have L7 : LentB w9 w.heap.size gi b := L8.out.kept hgr (.inr (fun e => by have := HLo.out gi e.symm; have := JU.out; omega))
          have B7 := B8.out.grown hgr B8.out.size (fun q hq => by have := HLo.out q hq; have := JU.out; have := GG.out; omega)
          clear hgr O8 P8 R8 L8 B8 S8 HM6 HM7 NS JNb
          obtain ⟨bd, hbd⟩ : ∃ bd, bd = bb l bad y := ⟨_, rfl⟩
          have TE : Hid (bd = false → l' = l2') := by
            show bd = false → l' = l2'
            rw [hbd]
            exact then_same JE.out bb_of (fun e => by rw [JE.out (bb_of e)]) t' t2'
          have TF : Hid (Fit 8 l' ∧ Fit 8 l2' ∧ l'.length ≤ 600 ∧ l2'.length ≤ 600) := ⟨t'.1, t2'.1, Nat.le_trans t'.2.1 JN.out, Nat.le_trans t2'.2.1 JN2.out⟩
          rw [← hbd] at JP7 R7
          have JPa := Lib.hid JP7
          have JRa := Lib.hid R7
          have La := Lib.hid L7
          have Ba := Lib.hid B7
          have LQ : Hid ((if bd = true then (0 : Int) else (l2'.length : Int)) = leftI l' bd) := by
            show _ = leftI l' bd
            have h := TE.out
            unfold leftI
            cases bd with
            | true => rfl
            | false => rw [h rfl]
          have EQ : Hid ((if bd = true ∨ 0 < l2'.length then (4 : Int) else 0) = endI l' bd) := by
            show _ = endI l' bd
            have h := TE.out
            unfold endI
            cases bd with
            | true => simp
            | false => rw [h rfl]
          clear t' t2' hbd JP7 R7 L7 B7
          go_wp2_with (first
            | (go_at_call 26; refine (P.left _ U g l' bd w9 JPa.out).mono ?_; rw [← LQ.out]; rintro e w8 ⟨rfl, hb⟩; have JPb := Lib.hid (P.next JPa.out hb); have JRb := Lib.hid (JRa.out.next hb); have Lb := Lib.hid (own_next La.out hb); have Bb := Lib.hid (below_next Ba.out hb); clear hb JPa JRa La Ba)
            | (go_at_call 27; refine (refLeft_rd z0 gw l2' bd w8 JRb.out).mono ?_; generalize (if bd = true then (0 : Int) else (l2'.length : Int)) = Lv; rintro e w' ⟨rfl, rfl⟩)
            | (go_at_call 29; refine (P.ends _ U g l' bd w8 JPb.out).mono ?_; rw [← EQ.out]; rintro e w9 ⟨v9, rfl, he, hb⟩; have JPc := Lib.hid (P.next JPb.out hb); have JRc := Lib.hid (JRb.out.next hb); have Lc := Lib.hid (own_next Lb.out hb); have Bc := Lib.hid (below_next Bb.out hb); have Ec := Lib.hid he; clear hb he JPb JRb Lb Bb)
            | (go_at_call 28; refine (num_any _ v9 w9 (HG.out.below Bc.out) Ec.out).mono ?_; rintro e w10 ⟨rfl, hb⟩; have JPd2 := Lib.hid (P.next JPc.out hb); have JRd2 := Lib.hid (JRc.out.next hb); have Ld := Lib.hid (own_next Lc.out hb); have Bd := Lib.hid (below_next Bc.out hb); clear hb JPc JRc Lc Bc Ec)
            | (go_at_call 30; refine (refEnd_rd z0 gw l2' bd w10 JRd2.out).mono ?_; generalize (if bd = true ∨ 0 < l2'.length then (4 : Int) else 0) = Ev; rintro e w' ⟨rfl, rfl⟩))
          go_roundw
          case rel => exact ⟨k + 1, by omega, by go_num, ⟨l', l2', bd, JPd2.out, JRd2.out, TF.out.1, TF.out.2.1, TF.out.2.2.1, TF.out.2.2.2, TE.out⟩, Ld.out, Bd.out⟩
          case measure => simp [intOf]; omega
        · by_cases d2 : d = 2
          · have t0 : (d == 0) = false := by rw [beq_eq_false_iff_ne]; exact d0
            have t1 : (d == 1) = false := by rw [beq_eq_false_iff_ne]; exact d1
            have tt : (d == 2) = true := by rw [beq_iff_eq]; exact d2
            clear d0 d1 d2
            go_wp2
            generalize wr.alloc (.cells #[.int .i64 d, .int .i64 x, .int .i64 y] 39) = w5 at JP JR JL JB JX JG ⊢
            generalize wr.heap.size = gx at JX JG HGX1 HGX2 ⊢
            have HF : Hid (∀ W : World, W.heap[gx]? = w5.heap[gx]? → W.cell? ⟨gx, 2, none⟩ = some (.int .i64 y)) := fun W h => by
              rw [JX.out] at h
              exact cell_of_row _ _ 2 _ _ _ h
            have JPd : Hid (pr B U g l bad w5.drew) := P.next JP.out (Below.refl _ _).drew
            have JRd : Hid (Rd z0 gw l2 bad w5.drew) := JR.out.next (Below.refl _ _).drew
            have NS := Lib.hid (bv_same JE.out y)
            have TT := str_same (bv l bad y)
            have s2 := HF.out _ rfl
            go_region_held3 (fun w' => w'.cell? ⟨gx, 2, none⟩ = some (.int .i64 y))
              (first
                | (refine HF.out _ ?_; first | rfl | assumption))
              (first
                | (go_at_call 24; refine (pt_any P y JPd.out JF.out JN0.out).mono ?_; rintro e w6 ⟨rfl, ⟨l', t', p'⟩, hgr⟩; have hx6 : w6.heap[gx]? = w5.heap[gx]? := hgr.block gx JG.out.2 HGX1.out; have JR6 := Lib.hid (JRd.out.far hgr HGR1.out HZW.out); have JG6 := Lib.hid hgr.size; have HGr6 := Lib.hid hgr; clear hgr)
                | (go_at_call 25; refine (rt_any y JR6.out JF2.out JN2.out).mono ?_; rw [NS.out.1, NS.out.2]; rintro e w7 ⟨rfl, ⟨l2', t2', r2'⟩, hgr2⟩; have hx7 : w7.heap[gx]? = w5.heap[gx]? := (hgr2.block gx (Nat.lt_of_lt_of_le JG.out.2 JG6.out) HGX2.out).trans hx6))
            have JP7 := P.far p' hgr2 HGR2.out
            have R7 := r2'
            have L7 := ((own_next JL.out (Below.refl _ _).drew).kept HGr6.out HGL1.out).kept hgr2 HGL2.out
            have B7 := below_grown (below_grown JB.out.drew HGr6.out HWG.out) hgr2 HWW.out
            clear hx6 hx7 JPd JRd JR6 JG6 HGr6 hgr2 s2 HF NS p' r2'
            obtain ⟨bd, hbd⟩ : ∃ bd, bd = bb l bad y := ⟨_, rfl⟩
            have TE : Hid (bd = false → l' = l2') := by
              show bd = false → l' = l2'
              rw [hbd]
              exact then_same JE.out bb_of (fun e => by rw [JE.out (bb_of e)]) t' t2'
            have TF : Hid (Fit 8 l' ∧ Fit 8 l2' ∧ l'.length ≤ 600 ∧ l2'.length ≤ 600) := ⟨t'.1, t2'.1, Nat.le_trans t'.2.1 JN.out, Nat.le_trans t2'.2.1 JN2.out⟩
            rw [← hbd] at JP7 R7
            have JPa := Lib.hid JP7
            have JRa := Lib.hid R7
            have La := Lib.hid L7
            have Ba := Lib.hid B7
            have LQ : Hid ((if bd = true then (0 : Int) else (l2'.length : Int)) = leftI l' bd) := by
              show _ = leftI l' bd
              have h := TE.out
              unfold leftI
              cases bd with
              | true => rfl
              | false => rw [h rfl]
            have EQ : Hid ((if bd = true ∨ 0 < l2'.length then (4 : Int) else 0) = endI l' bd) := by
              show _ = endI l' bd
              have h := TE.out
              unfold endI
              cases bd with
              | true => simp
              | false => rw [h rfl]
            clear t' t2' hbd JP7 R7 L7 B7
            go_wp2_with (first
              | (go_at_call 26; refine (P.left _ U g l' bd w7 JPa.out).mono ?_; rw [← LQ.out]; rintro e w8 ⟨rfl, hb⟩; have JPb := Lib.hid (P.next JPa.out hb); have JRb := Lib.hid (JRa.out.next hb); have Lb := Lib.hid (own_next La.out hb); have Bb := Lib.hid (below_next Ba.out hb); clear hb JPa JRa La Ba)
              | (go_at_call 27; refine (refLeft_rd z0 gw l2' bd w8 JRb.out).mono ?_; generalize (if bd = true then (0 : Int) else (l2'.length : Int)) = Lv; rintro e w' ⟨rfl, rfl⟩)
              | (go_at_call 29; refine (P.ends _ U g l' bd w8 JPb.out).mono ?_; rw [← EQ.out]; rintro e w9 ⟨v9, rfl, he, hb⟩; have JPc := Lib.hid (P.next JPb.out hb); have JRc := Lib.hid (JRb.out.next hb); have Lc := Lib.hid (own_next Lb.out hb); have Bc := Lib.hid (below_next Bb.out hb); have Ec := Lib.hid he; clear hb he JPb JRb Lb Bb)
              | (go_at_call 28; refine (num_any _ v9 w9 (HG.out.below Bc.out) Ec.out).mono ?_; rintro e w10 ⟨rfl, hb⟩; have JPd2 := Lib.hid (P.next JPc.out hb); have JRd2 := Lib.hid (JRc.out.next hb); have Ld := Lib.hid (own_next Lc.out hb); have Bd := Lib.hid (below_next Bc.out hb); clear hb JPc JRc Lc Bc Ec)
              | (go_at_call 30; refine (refEnd_rd z0 gw l2' bd w10 JRd2.out).mono ?_; generalize (if bd = true ∨ 0 < l2'.length then (4 : Int) else 0) = Ev; rintro e w' ⟨rfl, rfl⟩))
            go_roundw
            case rel => exact ⟨k + 1, by omega, by go_num, ⟨l', l2', bd, JPd2.out, JRd2.out, TF.out.1, TF.out.2.1, TF.out.2.2.1, TF.out.2.2.2, TE.out⟩, Ld.out, Bd.out⟩
            case measure => simp [intOf]; omega
          · have t0 : (d == 0) = false := by rw [beq_eq_false_iff_ne]; exact d0
            have t1 : (d == 1) = false := by rw [beq_eq_false_iff_ne]; exact d1
            have tt : (d == 2) = false := by rw [beq_eq_false_iff_ne]; exact d2
            clear d0 d1 d2
            obtain ⟨l', t', JP7⟩ : ∃ l', Then l l' bad 0 ∧ pr B U g l' bad (wr.alloc (.cells #[.int .i64 d, .int .i64 x, .int .i64 y] 39)) := ⟨l, ⟨JF.out, Nat.le_refl _, fun _ => rfl⟩, JP.out⟩
            obtain ⟨l2', t2', R7⟩ : ∃ l', Then l2 l' bad 0 ∧ Rd z0 gw l' bad (wr.alloc (.cells #[.int .i64 d, .int .i64 x, .int .i64 y] 39)) := ⟨l2, ⟨JF2.out, Nat.le_refl _, fun _ => rfl⟩, JR.out⟩
            have L7 := JL.out
            have B7 := JB.out
            obtain ⟨bd, hbd⟩ : ∃ bd, bd = bad := ⟨_, rfl⟩
            have TE : Hid (bd = false → l' = l2') := by
              show bd = false → l' = l2'
              rw [hbd]
              exact then_same JE.out (fun e => e) (fun e => rfl) t' t2'
            have TF : Hid (Fit 8 l' ∧ Fit 8 l2' ∧ l'.length ≤ 600 ∧ l2'.length ≤ 600) := ⟨t'.1, t2'.1, Nat.le_trans t'.2.1 JN.out, Nat.le_trans t2'.2.1 JN2.out⟩
            rw [← hbd] at JP7 R7
            have JPa := Lib.hid JP7
            have JRa := Lib.hid R7
            have La := Lib.hid L7
            have Ba := Lib.hid B7
            have LQ : Hid ((if bd = true then (0 : Int) else (l2'.length : Int)) = leftI l' bd) := by
              show _ = leftI l' bd
              have h := TE.out
              unfold leftI
              cases bd with
              | true => rfl
              | false => rw [h rfl]
            have EQ : Hid ((if bd = true ∨ 0 < l2'.length then (4 : Int) else 0) = endI l' bd) := by
              show _ = endI l' bd
              have h := TE.out
              unfold endI
              cases bd with
              | true => simp
              | false => rw [h rfl]
            clear t' t2' hbd JP7 R7 L7 B7
            go_wp2_with (first
              | (go_at_call 26; refine (P.left _ U g l' bd _ JPa.out).mono ?_; rw [← LQ.out]; rintro e w8 ⟨rfl, hb⟩; have JPb := Lib.hid (P.next JPa.out hb); have JRb := Lib.hid (JRa.out.next hb); have Lb := Lib.hid (own_next La.out hb); have Bb := Lib.hid (below_next Ba.out hb); clear hb JPa JRa La Ba)
              | (go_at_call 27; refine (refLeft_rd z0 gw l2' bd w8 JRb.out).mono ?_; generalize (if bd = true then (0 : Int) else (l2'.length : Int)) = Lv; rintro e w' ⟨rfl, rfl⟩)
              | (go_at_call 29; refine (P.ends _ U g l' bd w8 JPb.out).mono ?_; rw [← EQ.out]; rintro e w9 ⟨v9, rfl, he, hb⟩; have JPc := Lib.hid (P.next JPb.out hb); have JRc := Lib.hid (JRb.out.next hb); have Lc := Lib.hid (own_next Lb.out hb); have Bc := Lib.hid (below_next Bb.out hb); have Ec := Lib.hid he; clear hb he JPb JRb Lb Bb)
              | (go_at_call 28; refine (num_any _ v9 w9 (HG.out.below Bc.out) Ec.out).mono ?_; rintro e w10 ⟨rfl, hb⟩; have JPd2 := Lib.hid (P.next JPc.out hb); have JRd2 := Lib.hid (JRc.out.next hb); have Ld := Lib.hid (own_next Lc.out hb); have Bd := Lib.hid (below_next Bc.out hb); clear hb JPc JRc Lc Bc Ec)
              | (go_at_call 30; refine (refEnd_rd z0 gw l2' bd w10 JRd2.out).mono ?_; generalize (if bd = true ∨ 0 < l2'.length then (4 : Int) else 0) = Ev; rintro e w' ⟨rfl, rfl⟩))
            go_roundw
            case rel => exact ⟨k + 1, by omega, by go_num, ⟨l', l2', bd, JPd2.out, JRd2.out, TF.out.1, TF.out.2.1, TF.out.2.2.1, TF.out.2.2.2, TE.out⟩, Ld.out, Bd.out⟩
            case measure => simp [intOf]; omega
    · have e : k = n2 := by omega
      subst e
      obtain ⟨_, jL, jB⟩ := HR.out
      have LZ := Lib.hid jL
      have BZ := Lib.hid jB
      clear jL jB HR
      go_wp2_with fail
      refine (kept_l LZ.out (H1.out.next BZ.out) (by omega)).mono ?_
      rintro e w5 ⟨rfl, hb⟩
      have B5 := Lib.hid (below_next BZ.out hb)
      clear hb LZ BZ
      go_wp2_with (go_at_call 8; refine (awake_any P w5 (HG.out.below B5.out)).mono ?_; rintro e w6 ⟨rfl, hb⟩; have B6 := Lib.hid (below_next B5.out hb); clear hb)
      go_ret
      exact ⟨rfl, B6.out⟩
end Go.Proofs.YtmegjjfgiibobaaDoor
