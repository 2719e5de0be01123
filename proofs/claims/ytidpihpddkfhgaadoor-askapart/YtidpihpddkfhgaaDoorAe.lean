/- Contracts: the document's own reader, as a request is taken of it. -/
import Derived.Test.YtidpihpddkfhgaaDoorAd
namespace Go.Proofs.YtidpihpddkfhgaaDoor
open Go.RowKit Slices Go.Proofs.YtidpihpddkfhgaaDoor.Bit

/-- a reader that has s left (none: something was wrong) -/
def RdO (z0 g : Nat) (s : Option (List Int)) (w : World) : Prop := match s with
  | some l => Rd z0 g l false w ∧ Fit 8 l ∧ l.length ≤ 40000
  | none => ∃ l, Rd z0 g l true w ∧ Fit 8 l ∧ l.length ≤ 40000
theorem RdO.some_ {z0 g : Nat} {l : List Int} {w : World} (h : Rd z0 g l false w) (hf : Fit 8 l) (hl : l.length ≤ 40000) : RdO z0 g (some l) w := ⟨h, hf, hl⟩
theorem RdO.none_ {z0 g : Nat} {l : List Int} {w : World} (h : Rd z0 g l true w) (hf : Fit 8 l) (hl : l.length ≤ 40000) : RdO z0 g none w := ⟨l, h, hf, hl⟩
theorem rd_far {z0 g : Nat} {l : List Int} {bad : Bool} {w w' : World} (h : Rd z0 g l bad w) (hk : ∀ i, i ≤ g → w'.heap[i]? = w.heap[i]?) : Rd z0 g l bad w' := by
  obtain ⟨A, c, h1, h2, h3⟩ := h
  refine ⟨A, c, (hk g (Nat.le_refl _)).trans h1, fun k hl => ?_, h3⟩
  obtain ⟨a, e, hb, hc⟩ := h2 k hl
  refine ⟨a, e, hb, ?_⟩
  rw [← hc]
  unfold World.cell?
  rw [add_block, hk a.block (by omega)]
theorem RdO.far {z0 g : Nat} {s : Option (List Int)} {w w' : World} (h : RdO z0 g s w) (hk : ∀ i, i ≤ g → w'.heap[i]? = w.heap[i]?) : RdO z0 g s w' := by
  cases s with
  | none => obtain ⟨l, h1, h2⟩ := h; exact ⟨l, rd_far h1 hk, h2⟩
  | some l => exact ⟨rd_far h.1 hk, h.2⟩
theorem Rd.lt {z0 g : Nat} {l : List Int} {bad : Bool} {w : World} (h : Rd z0 g l bad w) : g < w.heap.size := by
  obtain ⟨A, c, h1, _⟩ := h
  exact h1.lt
theorem RdO.lt {z0 g : Nat} {s : Option (List Int)} {w : World} (h : RdO z0 g s w) : g < w.heap.size := by
  cases s with
  | none => obtain ⟨l, h1, _⟩ := h; exact h1.lt
  | some l => exact h.1.lt
theorem refN (z0 g : Nat) (s : Option (List Int)) (lo hi : Int) (w : World) (h : RdO z0 g s w) :
    Calls Tryd.prog 60 #[.pointer (some ⟨g, 0, none⟩), .int .i64 lo, .int .i64 hi] w fun e w' => e = .returned (.int .i64 (rN s lo hi).1) ∧ RdO z0 g (rN s lo hi).2 w' ∧ w.grownBy w' (some g) := by
  cases s with
  | none =>
    obtain ⟨l, h1, h2, h3⟩ := h
    refine (refRNum_no z0 g l true lo hi w h1 h2 (fun q => Bool.noConfusion q.1)).mono ?_
    rintro e w' ⟨he, hr, hg⟩
    exact ⟨he, .none_ hr h2 h3, hg⟩
  | some l =>
    obtain ⟨h1, h2, h3⟩ := h
    unfold rN
    by_cases hk : rdOk l false lo hi
    · simp only [if_pos hk]
      refine (refRNum_yes z0 g l lo hi w h1 h2 hk).mono ?_
      rintro e w' ⟨he, hr, hg⟩
      exact ⟨he, .some_ hr (fit_drop h2 8) (by rw [List.length_drop]; omega), hg⟩
    · simp only [if_neg hk]
      refine (refRNum_no z0 g l false lo hi w h1 h2 hk).mono ?_
      rintro e w' ⟨he, hr, hg⟩
      exact ⟨he, .none_ hr h2 h3, hg⟩
theorem refT (z0 g : Nat) (s : Option (List Int)) (most : Int) (w : World) (h : RdO z0 g s w) :
    Calls Tryd.prog 61 #[.pointer (some ⟨g, 0, none⟩), .int .i64 most] w fun e w' => e = .returned (.string (strOfNums (rB s most).1)) ∧ RdO z0 g (rB s most).2 w' ∧ w.grownBy w' (some g) := by
  cases s with
  | none =>
    obtain ⟨l, h1, h2, h3⟩ := h
    refine (refRText_no z0 g l true most w h1 h2 (fun q => Bool.noConfusion q.2.1.1)).mono ?_
    rintro e w' ⟨he, ⟨l', f', n', hr⟩, hg⟩
    exact ⟨he, .none_ hr f' (Nat.le_trans n' h3), hg⟩
  | some l =>
    obtain ⟨h1, h2, h3⟩ := h
    unfold rB
    by_cases hk : rdBOk l false most
    · simp only [if_pos hk]
      refine (refRText_yes z0 g l most w h1 h2 h3 hk).mono ?_
      rintro e w' ⟨he, hr, hg⟩
      exact ⟨he, .some_ hr (fit_drop h2 _) (by rw [List.length_drop]; omega), hg⟩
    · simp only [if_neg hk]
      refine (refRText_no z0 g l false most w h1 h2 hk).mono ?_
      rintro e w' ⟨he, ⟨l', f', n', hr⟩, hg⟩
      exact ⟨he, .none_ hr f' (Nat.le_trans n' h3), hg⟩
theorem refB (z0 g : Nat) (s : Option (List Int)) (most : Int) (w : World) (h : RdO z0 g s w) :
    Calls Tryd.prog 62 #[.pointer (some ⟨g, 0, none⟩), .int .i64 most] w fun e w' => ∃ A' c', e = .returned (.slice A' (rB s most).1.length c') ∧ w'.ownsRow w.heap.size 5 1 (.slice A' (rB s most).1.length c') (rB s most).1.length (ints .u8 (rB s most).1) ∧ RdO z0 g (rB s most).2 w' ∧ w.grownBy w' (some g) := by
  cases s with
  | none =>
    obtain ⟨l, h1, h2, h3⟩ := h
    refine (refRBytes_no z0 g l true most w h1 h2 (fun q => Bool.noConfusion q.2.1.1)).mono ?_
    rintro e w' ⟨he, ⟨l', f', n', hr⟩, hg⟩
    exact ⟨none, 0, he, World.ownsRow_nil _ _ _ _, .none_ hr f' (Nat.le_trans n' h3), hg⟩
  | some l =>
    obtain ⟨h1, h2, h3⟩ := h
    unfold rB
    by_cases hk : rdBOk l false most
    · simp only [if_pos hk]
      have hl : ((l.drop 8).take (rdX l).toNat).length = (rdX l).toNat := by rw [List.length_take, List.length_drop]; have := hk.2.2; omega
      refine (refRBytes_yes z0 g l most w h1 h2 h3 hk).mono ?_
      rintro e w' ⟨A', c', he, ho, hr, hg⟩
      rw [hl]
      exact ⟨A', c', he, ho, .some_ hr (fit_drop h2 _) (by rw [List.length_drop]; omega), hg⟩
    · simp only [if_neg hk]
      refine (refRBytes_no z0 g l false most w h1 h2 hk).mono ?_
      rintro e w' ⟨he, ⟨l', f', n', hr⟩, hg⟩
      exact ⟨none, 0, he, World.ownsRow_nil _ _ _ _, .none_ hr f' (Nat.le_trans n' h3), hg⟩
end Go.Proofs.YtidpihpddkfhgaaDoor
