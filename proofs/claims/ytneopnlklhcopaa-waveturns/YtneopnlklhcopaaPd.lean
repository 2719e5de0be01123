/- Contract: the program's way over. -/
import Derived.Test.YtneopnlklhcopaaPc
namespace Go.Proofs.Ytneopnlklhcopaa
open Go.RowKit Slices Go.Proofs.Ytneopnlklhcopaa.Ring

theorem own_cap {w : World} {B g n c : Nat} {xs : List Value} (h : w.ownsRow B 3 1 (.slice (some ⟨g, 0, none⟩) n c) n xs) : n ≤ c := by
  rcases h.2 with ⟨h', _⟩ | ⟨g', c', cur, h', hb, hg, hnc, hcm, hcs, htake⟩
  · simp at h'
  · simp only [Value.slice.injEq, Option.some.injEq, Addr.mk.injEq, and_true, true_and] at h'
    obtain ⟨rfl, rfl⟩ := h'
    omega
theorem MidRel.drewN {w wr : World} {N g c : Nat} {F : V} {L I0 S I : Nat} (h : MidRel w N g c F L I0 S I wr) (n : Nat) : MidRel w N g c F L I0 S I (wr.drewN n) := by
  obtain ⟨b, e1, e2, e3, hh⟩ := h
  exact ⟨b, e1, e2, e3, hh.drewN n⟩

/-- the roots stand at the block z -/
def Zed (z : Nat) (w : World) : Prop := w.heap[z]? = some (.cells (rootsTo 256) 41 (0, 0))
theorem Zed.cell {z : Nat} {w : World} (h : Zed z w) {j : Nat} (hj : j < 256) : w.cell? ⟨z, j, none⟩ = some (.int .i64 (rRoot ((j : Nat) : Int))) := by
  rw [cell_of_row _ _ j _ _ _ h, rootsTo_at 256 hj, if_pos hj]
theorem Zed.rest {z g : Nat} {a b : World} (h : Zed z a) (hz : z ≠ g) (hr : Rest g a b) : Zed z b := (hr z hz).trans h
theorem Zed.drewN {z : Nat} {w : World} (h : Zed z w) (n : Nat) : Zed z (w.drewN n) := h

/-- behind the copy and the roots: the copy holds, the roots stand in a block of their own -/
theorem start_at {w w1 w2 : World} {N g c : Nat} {v : V} (h : Holds w N g c v w1) (hb : Below w1.heap.size w1 w2) :
    Holds w N g c v ((w2.alloc (.cells (Array.replicate 256 (.int .i64 0)) 41)).setRow w2.heap.size (rootsTo 256)) ∧ Zed w2.heap.size ((w2.alloc (.cells (Array.replicate 256 (.int .i64 0)) 41)).setRow w2.heap.size (rootsTo 256)) ∧ w2.heap.size ≠ g := by
  obtain ⟨l, a, b, d, e⟩ := h
  have hg := (own_block a).2
  have b2 : Below w1.heap.size w1 ((w2.alloc (.cells (Array.replicate 256 (.int .i64 0)) 41)).setRow w2.heap.size (rootsTo 256)) := below_setRow (hb.alloc hb.size _) hb.size _
  exact ⟨⟨l, own_next a b2, b, d, e.trans (b2.mono e.size)⟩, setRow_heap _ _ _ _ _ _ (heap_alloc_new w2 _), by have := hb.size; omega⟩

set_option maxRecDepth 100000 in
set_option maxHeartbeats 2000000 in
theorem pOver_yes (A : Option Addr) (c : Nat) (l : List Int) (w : World) (h : Has w w.heap.size A l) (hp : IsPoly l) :
    Calls Try.prog 15 #[.slice A l.length c] w (Gives w (toL (vOver (vec l)))) := by
  obtain ⟨hz, hi⟩ := zero_of_info Try.info41
  have HI41 := Lib.hid hi
  have n0 : l.length ≤ 256 := by rw [hp.1]; exact Nat.le_refl _
  have n1 : 256 ≤ l.length := by rw [hp.1]; exact Nat.le_refl _
  have HP := Lib.hid hp
  obtain ⟨a, rfl, hb, _⟩ := h.addr (by omega)
  have H := Lib.hid h
  clear h hp hi
  go_enter Try.func15, Try.ntmps15
  go_wp2_with (first
    | (go_at_call 24; refine (pMay_yes _ _ _ _ _ H.out HP.out).mono ?_; rintro e w' ⟨rfl, n, rfl⟩)
    | (go_at_call 40; refine (clone_any a c l (w.drewN n) H.out (by omega) (by omega)).mono ?_; rintro e w1 ⟨g, c1, rfl, ho, hb1⟩; have HO := Lib.hid ho; have HB1 := Lib.hid hb1; clear ho hb1)
    | (go_at_call 41; refine (roots_any _).mono ?_; rintro e w2 ⟨rfl, hb2⟩; have HB2 := Lib.hid hb2; clear hb2)
    | (refine wpList_store_row rfl 41 _ _ rfl w2.heap.size (rootsTo 256) rfl rfl 41 (Array.replicate 256 (.int .i64 0)) (heap_alloc_new w2 _) (by rw [rootsTo_size]; exact HI41.out) (by rw [rootsTo_size, Array.size_replicate]) (rootsTo_one 256) ?_))
  have hs := start_at (v := lv 0 (vec l)) (w := w) ⟨l, HO.out, HP.out, Same.refl _, (below_drewN (Below.refl _ _) n).trans HB1.out⟩ HB2.out
  generalize hz0 : w2.heap.size = z0 at hs
  generalize World.setRow _ _ _ = w3 at hs ⊢
  obtain ⟨hs1, hs2, hg⟩ := hs
  have hcap := own_cap HO.out
  have HS := Lib.hid hs1
  have HZ := Lib.hid hs2
  clear hs1 hs2 HO HB1 HB2 hz hz0
  generalize l.length = N at n0 n1 HS hcap
  go_loopw [5, 6] (fun i n wr => ∃ L M : Nat, i = .int .i64 M ∧ n = .int .i64 L ∧ OutRel w N g c1 (vec l) L M wr ∧ Zed z0 wr) (fun _ n _ => (intOf n).toNat)
  case atStart => exact ⟨128, 0, rfl, rfl, ⟨0, by decide, by decide, rfl, HS.out⟩, HZ.out⟩
  case round =>
    obtain ⟨L, M, rfl, rfl, ho, hz⟩ := hrel
    obtain ⟨o1, o2, o5, o6⟩ := out_facts ho
    have HO := Lib.hid ho
    have H5 := Lib.hid o5
    have H6 := Lib.hid o6
    have HZr := Lib.hid hz
    clear ho o5 o6 hz HS HZ
    by_cases hL : 1 ≤ L
    · obtain ⟨F, I0, hF, i1, hI, hM, hI2, hnext⟩ := H5.out hL
      have HF := Lib.hid hF
      have HI := Lib.hid hI
      have HM0 := Lib.hid hM
      have HI2 := Lib.hid hI2
      have HN := Lib.hid hnext
      clear hF hI hM hI2 hnext
      have bL : decide (1 ≤ (L : Int)) = true := by rw [decide_eq_true_iff]; omega
      go_wp2
      go_loopw [5, 7] (fun i s wr => ∃ M' S : Nat, i = .int .i64 M' ∧ s = .int .i64 S ∧ MidRel w N g c1 F L I0 S M' wr ∧ Zed z0 wr) (fun _ s _ => 256 - (intOf s).toNat)
      case atStart => exact ⟨M, 0, rfl, rfl, ⟨0, by omega, by have := HM0.out; omega, by omega, by rw [mix_start]; exact HF.out⟩, HZr.out⟩
      case round =>
        obtain ⟨M', S, rfl, rfl, hm, hz⟩ := hrel
        obtain ⟨m1, m2, m4, m5⟩ := mid_facts hm hL HI2.out
        have HM := Lib.hid hm
        have H4 := Lib.hid m4
        have HE := Lib.hid m5
        have HZ := Lib.hid hz
        clear hm m4 m5 hz HZr
        by_cases hS : S < 256
        · have hS2 := H4.out hS
          have bS : decide ((S : Int) < 256) = true := by rw [decide_eq_true_iff]; omega
          have hM1 : M' + 1 < 256 := by
            obtain ⟨b, rfl, e2, e3, _⟩ := HM.out
            have h1 : 2 * 1 * I0 ≤ 2 * L * I0 := Nat.mul_le_mul_right _ (by omega)
            have h2 : b < I0 := by
              rcases Nat.lt_or_ge b I0 with h | h
              · exact h
              · have : 2 * L * I0 ≤ 2 * L * b := Nat.mul_le_mul_left _ h
                have := HI2.out
                omega
            have := HI2.out
            omega
          go_wp2
          have s1 : (0 : Int) ≤ (S : Int) := by omega
          have s2 : (S : Int) ≤ (S : Int) + (L : Int) := by omega
          have s3 : (S : Int) + (L : Int) ≤ (c1 : Int) := by omega
          have s4 : (S : Int) + (L : Int) + (L : Int) ≤ (c1 : Int) := by omega
          have s5 : IntKind.i64.wrap ((S : Int) + (L : Int) + (L : Int)) = (S : Int) + (L : Int) + (L : Int) := IntWalk.i64_in _ (by omega)
          have s6 : (0 : Int) ≤ (S : Int) + (L : Int) := by omega
          have s7 : (0 : Int) ≤ (S : Int) + (L : Int) + (L : Int) := by omega
          have s8 : (S : Int) + (L : Int) ≤ max ((S : Int) + (L : Int) + (L : Int)) 0 := by omega
          have s9 : ¬ c1 = S := by omega
          have s10 : ¬ c1 = S + L := by omega
          have s11 : ((S : Int) + (L : Int)).toNat = S + L := by omega
          have s12 : ((S : Int) + (L : Int) + (L : Int)).toNat = S + L + L := by omega
          have s13 : ((M' : Int) + 1).toNat = M' + 1 := by omega
          have s14 : (0 : Int) ≤ (M' : Int) + 1 := by omega
          have s15 : (M' : Int) + 1 < 256 := by omega
          refine wp_region_still_tail 13 (by kernel_rfl) (by kernel_rfl) ?_
          change wpStill _ _ (World.drew _) (fun a' => wpList _ _ _ _ a' (World.drew _)) _ _
          generalize hW : World.drew wr = w4
          have M2 : Hid (MidRel w N g c1 F L I0 S M' w4) := by rw [← hW]; exact HM.out.drewN 1
          have Z2 : Hid (Zed z0 w4) := by rw [← hW]; exact HZ.out.drewN 1
          have cZ := Z2.out.cell (j := M' + 1) hM1
          clear hW HM HZ
          generalize hz : rRoot ((M' + 1 : Nat) : Int) = z at cZ
          have HZZ := Lib.hid hz
          clear hz
          simp only [List.take_succ_cons, List.take_zero, List.drop_succ_cons, List.drop_zero]
          repeat still_step
          refine wpStill_nil ?_
          clear s1 s2 s3 s4 s5 s6 s7 s8 s9 s10 s11 s12 s13 s14 s15
          go_wp2_with fail
          refine (part_any M2.out HI.out hL (by omega) (by omega) HZZ.out.symm).mono ?_
          rintro e w5 ⟨rfl, hh, hr⟩
          have HH := Lib.hid hh
          have HR := Lib.hid hr
          clear hh hr cZ
          go_wp2
          go_roundw
          case rel => exact ⟨M' + 1, S + 2 * L, by go_num, by go_num, mid_next M2.out hS HI2.out HH.out, Z2.out.rest hg HR.out⟩
          case measure => simp [intOf]; omega
        · go_wp2
          go_roundw
          case rel =>
            obtain ⟨e1, e2⟩ := HE.out (by omega)
            subst e2
            exact ⟨L / 2, 2 * I0 - 1, rfl, by go_num, HN.out _ e1, HZ.out⟩
          case measure => simp [intOf]; omega
    · go_wp2
      go_ret
      exact (H6.out (by omega)).gives
end Go.Proofs.Ytneopnlklhcopaa
