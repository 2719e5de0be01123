/- Contract: the way over. -/
import Derived.Test.YtmjcgkddjgplkaaDoorDb
namespace Go.Proofs.YtmjcgkddjgplkaaDoor
open Go.RowKit Slices Go.Proofs.YtmjcgkddjgplkaaDoor.Ring

theorem own_cap {w : World} {B g n c : Nat} {xs : List Value} (h : w.ownsRow B 3 1 (.slice (some ⟨g, 0, none⟩) n c) n xs) : n ≤ c := by
  rcases h.2 with ⟨h', _⟩ | ⟨g', c', cur, h', hb, hg, hnc, hcm, hcs, htake⟩
  · simp at h'
  · simp only [Value.slice.injEq, Option.some.injEq, Addr.mk.injEq, and_true, true_and] at h'
    obtain ⟨rfl, rfl⟩ := h'
    omega

theorem mid_lt {w wr : World} {N g c : Nat} {F : V} {L I0 S I : Nat} (h : MidRel w N g c F L I0 S I wr) (hL : 2 ≤ L) (hI : 2 * L * I0 = 256) (hs : S < 256) : I < 128 := by
  obtain ⟨b, rfl, rfl, hb, _⟩ := h
  have h1 : 2 * 2 * I0 ≤ 2 * L * I0 := Nat.mul_le_mul_right _ (by omega)
  have h2 : b < I0 := by
    rcases Nat.lt_or_ge b I0 with h | h
    · exact h
    · have : 2 * L * I0 ≤ 2 * L * b := Nat.mul_le_mul_left _ h
      omega
  omega
theorem Holds.drewN {w wr : World} {N g c : Nat} {v : V} (h : Holds w N g c v wr) (n : Nat) : Holds w N g c v (wr.drewN n) := by
  obtain ⟨l, a, b, d, e⟩ := h
  exact ⟨l, a, b, d, below_drewN e n⟩
theorem MidRel.drewN {w wr : World} {N g c : Nat} {F : V} {L I0 S I : Nat} (h : MidRel w N g c F L I0 S I wr) (n : Nat) : MidRel w N g c F L I0 S I (wr.drewN n) := by
  obtain ⟨b, e1, e2, e3, hh⟩ := h
  exact ⟨b, e1, e2, e3, hh.drewN n⟩

set_option maxRecDepth 100000 in
set_option maxHeartbeats 2000000 in
theorem pOver_yes (A : Option Addr) (c : Nat) (l : List Int) (w : World) (h : Has w w.heap.size A l) (hp : IsPoly l) (T : Hid (Tab w)) :
    Calls Tryd.prog 15 #[.slice A l.length c] w (Gives w (toL (vOver (vec l)))) := by
  have n0 : l.length ≤ 256 := by rw [hp.1]; exact Nat.le_refl _
  have n1 : 256 ≤ l.length := by rw [hp.1]; exact Nat.le_refl _
  have HP := Lib.hid hp
  obtain ⟨a, rfl, hb, _⟩ := h.addr (by omega)
  have H := Lib.hid h
  clear h hp
  go_enter Tryd.func15, Tryd.ntmps15
  go_wp2_with (first
    | (go_at_call 24; refine (pMay_yes _ _ _ _ _ H.out HP.out).mono ?_; rintro e w' ⟨rfl, n, rfl⟩)
    | (go_at_call 37; refine (clone_any a c l (w.drewN n) H.out (by omega) (by omega)).mono ?_; rintro e w1 ⟨g, c1, rfl, ho, hb1⟩; have HO := Lib.hid ho; have HB1 := Lib.hid hb1; clear ho hb1))
  have hs : Holds w l.length g c1 (lv 0 (vec l)) w1 := ⟨l, HO.out, HP.out, Same.refl _, (below_drewN (Below.refl _ _) n).trans HB1.out⟩
  have hcap := own_cap HO.out
  have HS := Lib.hid hs
  clear hs HO HB1
  generalize l.length = M at n0 n1 HS hcap
  go_loopw [4, 5] (fun i n wr => ∃ L I : Nat, i = .int .i64 I ∧ n = .int .i64 L ∧ OutRel w M g c1 (vec l) L I wr) (fun _ n _ => (intOf n).toNat)
  case atStart => exact ⟨128, 1, rfl, rfl, 0, by decide, by decide, rfl, HS.out⟩
  case round =>
    obtain ⟨L, I, rfl, rfl, ho⟩ := hrel
    obtain ⟨o1, o2, o3, o4, o5, o6⟩ := out_facts ho
    have HO := Lib.hid ho
    have H5 := Lib.hid o5
    have H6 := Lib.hid o6
    clear ho o5 o6
    by_cases hL : 2 ≤ L
    · obtain ⟨F, hF, hI, hI2, hnext⟩ := H5.out hL
      have HF := Lib.hid hF
      have HI := Lib.hid hI
      have HI2 := Lib.hid hI2
      have HN := Lib.hid hnext
      clear hF hI hI2 hnext
      have bL : decide (2 ≤ (L : Int)) = true := by rw [decide_eq_true_iff]; omega
      go_wp2
      go_loopw [4, 6] (fun i s wr => ∃ I' S : Nat, i = .int .i64 I' ∧ s = .int .i64 S ∧ MidRel w M g c1 F L I S I' wr) (fun _ s _ => 256 - (intOf s).toNat)
      case atStart => exact ⟨I, 0, rfl, rfl, 0, by omega, by omega, by omega, by rw [mix_start]; exact HF.out⟩
      case round =>
        obtain ⟨I', S, rfl, rfl, hm⟩ := hrel
        obtain ⟨m1, m2, m3, m4, m5⟩ := mid_facts hm hL HI2.out
        have HM := Lib.hid hm
        have H4 := Lib.hid m4
        have HE := Lib.hid m5
        clear hm m4 m5
        by_cases hS : S < 256
        · have hS2 := H4.out hS
          have bS : decide ((S : Int) < 256) = true := by rw [decide_eq_true_iff]; omega
          have hI' : I' < 128 := mid_lt HM.out hL HI2.out hS
          have hT : Tab wr := T.out.next (by obtain ⟨b, _, _, _, l', _, _, _, hb⟩ := HM.out; exact hb)
          have HT := Lib.hid hT
          clear hT
          go_wp2
          have s1 : (0 : Int) ≤ (S : Int) := by omega
          have s2 : (S : Int) ≤ (S : Int) + (L : Int) := by omega
          have s3 : (S : Int) + (L : Int) ≤ (c1 : Int) := by omega
          have s4 : (S : Int) + (L : Int) + (L : Int) ≤ (c1 : Int) := by omega
          have s5 : IntKind.i64.wrap ((S : Int) + (L : Int) + (L : Int)) = (S : Int) + (L : Int) + (L : Int) := IntWalk.i64_in _ (by omega)
          have s6 : (0 : Int) ≤ (S : Int) + (L : Int) := by omega
          have s7 : (0 : Int) ≤ (S : Int) + (L : Int) + (L : Int) := by omega
          have s8 : (S : Int) + (L : Int) ≤ max ((S : Int) + (L : Int) + (L : Int)) 0 := by omega
          have s9 : ¬ c1 = S := by omega
          have s10 : ¬ c1 = S + L := by omega
          have s11 : ((S : Int) + (L : Int)).toNat = S + L := by omega
          have s12 : ((S : Int) + (L : Int) + (L : Int)).toNat = S + L + L := by omega
          refine wp_region_still_tail 12 (by kernel_rfl) (by kernel_rfl) ?_
          change wpStill _ _ (World.drew _) (fun a' => wpList _ _ _ _ a' (World.drew _)) _ _
          generalize hW : World.drew wr = w2
          have M2 : Hid (MidRel w M g c1 F L I S I' w2) := by rw [← hW]; exact HM.out.drewN 1
          have T2 : Hid (Tab w2) := by rw [← hW]; exact HT.out.drewN 1
          clear hW HM HT
          simp only [List.take_succ_cons, List.take_zero, List.drop_succ_cons, List.drop_zero]
          repeat still_step
          still_call (still_eq (root_any I' _ hI' T2))
          repeat still_step
          refine wpStill_nil ?_
          clear s1 s2 s3 s4 s5 s6 s7 s8 s9 s10 s11 s12
          go_wp2_with fail
          refine (part_any M2.out HI.out hL (by omega) (by omega) hI').mono ?_
          rintro e w3 ⟨rfl, hh⟩
          have HH := Lib.hid hh
          clear hh
          go_wp2
          go_roundw
          case rel => exact ⟨I' + 1, S + 2 * L, by go_num, by go_num, mid_next M2.out hS hL HI2.out HH.out⟩
          case measure => simp [intOf]; omega
        · go_wp2
          go_roundw
          case rel =>
            obtain ⟨e1, e2⟩ := HE.out (by omega)
            subst e2
            exact ⟨L / 2, 2 * I, rfl, by go_num, HN.out _ e1⟩
          case measure => simp [intOf]; omega
    · go_wp2
      go_ret
      exact (H6.out (by omega)).gives
end Go.Proofs.YtmjcgkddjgplkaaDoor
