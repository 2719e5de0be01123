/- Both readers asked the same: what they answer, how they stand behind it. -/
import Derived.Test.YtmegjjfgiibobaaDoorCt
namespace Go.Proofs.YtmegjjfgiibobaaDoor
open Go.RowKit Slices Go.Proofs.YtmegjjfgiibobaaDoor.Bit

instance (l : List Int) (bad : Bool) (most : Int) : Decidable (rdBOk l bad most) := by unfold rdBOk; infer_instance
/-- what a number's question is answered, and whether something is wrong behind it -/
def nv (l : List Int) (bad : Bool) (lo hi : Int) : Int := if rdOk l bad lo hi then rdX l else 0
def nb (l : List Int) (bad : Bool) (lo hi : Int) : Bool := !decide (rdOk l bad lo hi)
def bv (l : List Int) (bad : Bool) (most : Int) : List Int := if rdBOk l bad most then (l.drop 8).take (rdX l).toNat else []
def bb (l : List Int) (bad : Bool) (most : Int) : Bool := !decide (rdBOk l bad most)
/-- a reader's state behind a question: n bytes were read -/
def Then (l l' : List Int) (bad' : Bool) (n : Nat) : Prop := Fit 8 l' ∧ l'.length ≤ l.length ∧ (bad' = false → l' = l.drop n)
theorem then_yes {l : List Int} (hf : Fit 8 l) (n : Nat) : Then l (l.drop n) false n := ⟨fit_drop hf n, by rw [List.length_drop]; omega, fun _ => rfl⟩
theorem then_no {l l' : List Int} (hf : Fit 8 l') (hl : l'.length ≤ l.length) (n : Nat) : Then l l' true n := ⟨hf, hl, fun e => by cases e⟩
theorem bv_len {l : List Int} {most : Int} (h : rdBOk l false most) : ((l.drop 8).take (rdX l).toNat).length = (rdX l).toNat := by
  rw [List.length_take, List.length_drop]
  have := h.2.2
  omega
theorem bv_le (l : List Int) (bad : Bool) (most : Int) : (bv l bad most).length ≤ l.length := by
  unfold bv
  split
  · rw [List.length_take, List.length_drop]; omega
  · exact Nat.zero_le _
/-- the same is answered of the same, and of whatever where something was wrong -/
theorem nv_same {l l2 : List Int} {bad : Bool} (h : bad = false → l = l2) (lo hi : Int) : nv l2 bad lo hi = nv l bad lo hi ∧ nb l2 bad lo hi = nb l bad lo hi := by
  cases bad with
  | false => rw [h rfl]; exact ⟨rfl, rfl⟩
  | true =>
    have n1 : ¬ rdOk l true lo hi := fun q => by cases q.1
    have n2 : ¬ rdOk l2 true lo hi := fun q => by cases q.1
    unfold nv nb
    rw [if_neg n1, if_neg n2, decide_eq_false n1, decide_eq_false n2]
    exact ⟨rfl, rfl⟩
theorem bv_same {l l2 : List Int} {bad : Bool} (h : bad = false → l = l2) (most : Int) : bv l2 bad most = bv l bad most ∧ bb l2 bad most = bb l bad most := by
  cases bad with
  | false => rw [h rfl]; exact ⟨rfl, rfl⟩
  | true =>
    have n1 : ¬ rdBOk l true most := fun q => by cases q.2.1.1
    have n2 : ¬ rdBOk l2 true most := fun q => by cases q.2.1.1
    unfold bv bb
    rw [if_neg n1, if_neg n2, decide_eq_false n1, decide_eq_false n2]
    exact ⟨rfl, rfl⟩
/-- both stand alike behind a question, too -/
theorem then_same {l l2 l' l2' : List Int} {bad bad' : Bool} {n n2 : Nat} (h : bad = false → l = l2) (hb : bad' = false → bad = false) (hn : bad' = false → n = n2) (h1 : Then l l' bad' n) (h2 : Then l2 l2' bad' n2) : bad' = false → l' = l2' := fun e => by
  rw [h1.2.2 e, h2.2.2 e, h (hb e), hn e]
theorem nb_of {l : List Int} {bad : Bool} {lo hi : Int} (h : nb l bad lo hi = false) : bad = false := by
  unfold nb at h
  have : decide (rdOk l bad lo hi) = true := by simpa using h
  exact (of_decide_eq_true this).1
theorem bb_of {l : List Int} {bad : Bool} {most : Int} (h : bb l bad most = false) : bad = false := by
  unfold bb at h
  have : decide (rdBOk l bad most) = true := by simpa using h
  exact (of_decide_eq_true this).2.1.1

theorem pn_any {pr : Nat → Nat → Nat → List Int → Bool → World → Prop} (P : CodeOk pr) {B U g : Nat} {l : List Int} {bad : Bool} (lo hi : Int) {w : World} (h : pr B U g l bad w) (hf : Fit 8 l) (hl : l.length ≤ 10000) :
    Calls Tryd.prog 20 #[.pointer (some ⟨g, 0, none⟩), .int .i64 lo, .int .i64 hi] w fun e w' => e = .returned (.int .i64 (nv l bad lo hi)) ∧ (∃ l', Then l l' (nb l bad lo hi) 8 ∧ pr B U g l' (nb l bad lo hi) w') ∧ w.grownBy w' (some g) := by
  by_cases hk : rdOk l bad lo hi
  · obtain rfl : bad = false := hk.1
    unfold nv nb
    rw [if_pos hk, decide_eq_true hk]
    exact (P.num_yes B U g l lo hi w h hf hl hk).mono fun e w' q => ⟨q.1, ⟨_, then_yes hf 8, q.2.1⟩, q.2.2⟩
  · unfold nv nb
    rw [if_neg hk, decide_eq_false hk]
    refine (P.num_no B U g l bad lo hi w h hf hl hk).mono ?_
    rintro e w' ⟨q1, ⟨l', q2, q3, q4⟩, q5⟩
    exact ⟨q1, ⟨l', then_no q2 q3 8, q4⟩, q5⟩
theorem rn_any {z0 g : Nat} {l : List Int} {bad : Bool} (lo hi : Int) {w : World} (h : Rd z0 g l bad w) (hf : Fit 8 l) :
    Calls Tryd.prog 21 #[.pointer (some ⟨g, 0, none⟩), .int .i64 lo, .int .i64 hi] w fun e w' => e = .returned (.int .i64 (nv l bad lo hi)) ∧ (∃ l', Then l l' (nb l bad lo hi) 8 ∧ Rd z0 g l' (nb l bad lo hi) w') ∧ w.grownBy w' (some g) := by
  by_cases hk : rdOk l bad lo hi
  · obtain rfl : bad = false := hk.1
    unfold nv nb
    rw [if_pos hk, decide_eq_true hk]
    exact (refRNum_yes z0 g l lo hi w h hf hk).mono fun e w' q => ⟨q.1, ⟨_, then_yes hf 8, q.2.1⟩, q.2.2⟩
  · unfold nv nb
    rw [if_neg hk, decide_eq_false hk]
    exact (refRNum_no z0 g l bad lo hi w h hf hk).mono fun e w' q => ⟨q.1, ⟨l, then_no hf (Nat.le_refl _) 8, q.2.1⟩, q.2.2⟩
theorem pb_any {pr : Nat → Nat → Nat → List Int → Bool → World → Prop} (P : CodeOk pr) {B U g : Nat} {l : List Int} {bad : Bool} (most : Int) {w : World} (h : pr B U g l bad w) (hf : Fit 8 l) (hl : l.length ≤ 10000) :
    Calls Tryd.prog 22 #[.pointer (some ⟨g, 0, none⟩), .int .i64 most] w fun e w' => (∃ A' m c', e = .returned (.slice A' m c') ∧ w'.ownsRow w.heap.size 5 1 (.slice A' m c') m (ints .u8 (bv l bad most))) ∧ (∃ l', Then l l' (bb l bad most) (8 + (rdX l).toNat) ∧ pr B U g l' (bb l bad most) w') ∧ w.grownBy w' (some g) := by
  by_cases hk : rdBOk l bad most
  · obtain rfl : bad = false := hk.2.1.1
    unfold bv bb
    rw [if_pos hk, decide_eq_true hk]
    refine (P.bytes_yes B U g l most w h hf hl hk).mono ?_
    rintro e w' ⟨A', c', q1, q2, q3, q4⟩
    exact ⟨⟨A', _, c', q1, q2⟩, ⟨_, then_yes hf _, q3⟩, q4⟩
  · unfold bv bb
    rw [if_neg hk, decide_eq_false hk]
    refine (P.bytes_no B U g l bad most w h hf hl hk).mono ?_
    rintro e w' ⟨q1, ⟨l', q2, q3, q4⟩, q5⟩
    exact ⟨⟨none, 0, 0, q1, World.ownsRow_nil _ _ _ _⟩, ⟨l', then_no q2 q3 _, q4⟩, q5⟩
theorem rb_any {z0 g : Nat} {l : List Int} {bad : Bool} (most : Int) {w : World} (h : Rd z0 g l bad w) (hf : Fit 8 l) (hl : l.length ≤ 600) :
    Calls Tryd.prog 23 #[.pointer (some ⟨g, 0, none⟩), .int .i64 most] w fun e w' => (∃ A' m c', e = .returned (.slice A' m c') ∧ w'.ownsRow w.heap.size 5 1 (.slice A' m c') m (ints .u8 (bv l bad most))) ∧ (∃ l', Then l l' (bb l bad most) (8 + (rdX l).toNat) ∧ Rd z0 g l' (bb l bad most) w') ∧ w.grownBy w' (some g) := by
  by_cases hk : rdBOk l bad most
  · obtain rfl : bad = false := hk.2.1.1
    unfold bv bb
    rw [if_pos hk, decide_eq_true hk]
    refine (refRBytes_yes z0 g l most w h hf (by omega) hk).mono ?_
    rintro e w' ⟨A', c', q1, q2, q3, q4⟩
    exact ⟨⟨A', _, c', q1, q2⟩, ⟨_, then_yes hf _, q3⟩, q4⟩
  · unfold bv bb
    rw [if_neg hk, decide_eq_false hk]
    refine (refRBytes_no z0 g l bad most w h hf hk).mono ?_
    rintro e w' ⟨q1, ⟨l', q2, q3, q4⟩, q5⟩
    exact ⟨⟨none, 0, 0, q1, World.ownsRow_nil _ _ _ _⟩, ⟨l', then_no q2 q3 _, q4⟩, q5⟩
theorem pt_any {pr : Nat → Nat → Nat → List Int → Bool → World → Prop} (P : CodeOk pr) {B U g : Nat} {l : List Int} {bad : Bool} (most : Int) {w : World} (h : pr B U g l bad w) (hf : Fit 8 l) (hl : l.length ≤ 10000) :
    Calls Tryd.prog 24 #[.pointer (some ⟨g, 0, none⟩), .int .i64 most] w fun e w' => e = .returned (.string (strOfNums (bv l bad most))) ∧ (∃ l', Then l l' (bb l bad most) (8 + (rdX l).toNat) ∧ pr B U g l' (bb l bad most) w') ∧ w.grownBy w' (some g) := by
  by_cases hk : rdBOk l bad most
  · obtain rfl : bad = false := hk.2.1.1
    unfold bv bb
    rw [if_pos hk, decide_eq_true hk]
    exact (P.text_yes B U g l most w h hf hl hk).mono fun e w' q => ⟨q.1, ⟨_, then_yes hf _, q.2.1⟩, q.2.2⟩
  · unfold bv bb
    rw [if_neg hk, decide_eq_false hk]
    refine (P.text_no B U g l bad most w h hf hl hk).mono ?_
    rintro e w' ⟨q1, ⟨l', q2, q3, q4⟩, q5⟩
    exact ⟨q1, ⟨l', then_no q2 q3 _, q4⟩, q5⟩
theorem rt_any {z0 g : Nat} {l : List Int} {bad : Bool} (most : Int) {w : World} (h : Rd z0 g l bad w) (hf : Fit 8 l) (hl : l.length ≤ 600) :
    Calls Tryd.prog 25 #[.pointer (some ⟨g, 0, none⟩), .int .i64 most] w fun e w' => e = .returned (.string (strOfNums (bv l bad most))) ∧ (∃ l', Then l l' (bb l bad most) (8 + (rdX l).toNat) ∧ Rd z0 g l' (bb l bad most) w') ∧ w.grownBy w' (some g) := by
  by_cases hk : rdBOk l bad most
  · obtain rfl : bad = false := hk.2.1.1
    unfold bv bb
    rw [if_pos hk, decide_eq_true hk]
    exact (refRText_yes z0 g l most w h hf (by omega) hk).mono fun e w' q => ⟨q.1, ⟨_, then_yes hf _, q.2.1⟩, q.2.2⟩
  · unfold bv bb
    rw [if_neg hk, decide_eq_false hk]
    refine (refRText_no z0 g l bad most w h hf hk).mono ?_
    rintro e w' ⟨q1, ⟨l', q2, q3, q4⟩, q5⟩
    exact ⟨q1, ⟨l', then_no q2 q3 _, q4⟩, q5⟩
theorem Rd.far {z0 g : Nat} {l : List Int} {bad : Bool} {w w' : World} {row : Option Nat} (h : Rd z0 g l bad w) (hg : w.grownBy w' row) (hr : ∀ q, row = some q → q < z0 ∨ g < q) (hz : z0 ≤ g) : Rd z0 g l bad w' := by
  obtain ⟨A, c, h1, h2, h3, h4, h5⟩ := h
  have hgl : g < w.heap.size := h1.lt
  refine ⟨A, c, ?_, fun k hk => ?_, h3, h4, h5⟩
  · exact (hg.block g hgl (fun e => by have := hr g e.symm; omega)).trans h1
  · obtain ⟨a, e, hb, hc⟩ := h2 k hk
    subst e
    have ha := h5 a rfl
    refine ⟨a, rfl, hb, ?_⟩
    rw [hg.cell_far _ (by rw [add_block]; omega) (fun e => by rw [add_block] at e; have := hr _ e.symm; omega)]
    exact hc
end Go.Proofs.YtmegjjfgiibobaaDoor
