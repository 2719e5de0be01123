/- The law CodeBack: what is asked of numbers, and of the calls it makes. -/
import Derived.Test.YtmegjjfgiibobaaDoorCr
namespace Go.Proofs.YtmegjjfgiibobaaDoor
open Go.RowKit Slices Go.Proofs.YtmegjjfgiibobaaDoor.Bit

/-- the statements' own remainder -/
def low (x n : Int) : Int := x % 18446744073709551616 % n
theorem low_lo (x : Int) {n : Int} (h : 1 ≤ n) : 0 ≤ low x n := Int.emod_nonneg _ (by omega)
theorem low_hi (x : Int) {n : Int} (h : 1 ≤ n) : low x n < n := Int.emod_lt_of_pos _ (by omega)
theorem wrap_low (x n : Int) (h0 : 1 ≤ n) (h1 : n ≤ 4611686018427387904) : wrap64 ((IntKind.u64.wrap x).tmod n) = low x n := by
  have e : IntKind.u64.wrap x = x % 18446744073709551616 := by simp [IntKind.wrap, IntKind.bits, IntKind.signed]
  rw [e, Int.tmod_eq_emod_of_nonneg (by omega)]
  have l0 := low_lo x h0
  have l1 := low_hi x h0
  unfold low at *
  unfold wrap64
  omega
theorem ret_int {k : IntKind} {a b : Int} (h : a = b) : Ending.returned (.int k a) = .returned (.int k b) := by rw [h]
theorem lawLow_any (x n : Int) (w : World) (h0 : 1 ≤ n) (h1 : n ≤ 4611686018427387904) :
    Calls Tryd.prog 31 #[.int .i64 x, .int .i64 n] w fun e w' => e = .returned (.int .i64 (low x n)) ∧ w = w' := by
  have e1 : IntKind.u64.wrap n = n := by
    have : IntKind.u64.wrap n = n % 18446744073709551616 := by simp [IntKind.wrap, IntKind.bits, IntKind.signed]
    omega
  have e2 := wrap_low x n h0 h1
  go_enter Tryd.func31, Tryd.ntmps31
  go_wp2
  go_ret
  exact ⟨ret_int e2, rfl⟩
theorem low_nat (z : Int) (n : Nat) (w : World) (h0 : 1 ≤ n) (h1 : n ≤ 20000) :
    Calls Tryd.prog 31 #[.int .i64 z, .int .i64 (n : Int)] w fun e w' => ∃ j : Nat, e = .returned (.int .i64 (j : Int)) ∧ j < n ∧ w = w' :=
  (lawLow_any z n w (by omega) (by omega)).mono fun _ _ h => by
    have l0 := low_lo z (n := (n : Int)) (by omega)
    have l1 := low_hi z (n := (n : Int)) (by omega)
    refine ⟨(low z n).toNat, ?_, by omega, h.2⟩
    rw [Int.toNat_of_nonneg l0]
    exact h.1

theorem rdX_take (l : List Int) {m : Nat} (h : 8 ≤ m) : rdX (l.take m) = rdX l := by
  unfold rdX
  have : ∀ k, k ≤ 8 → valTo (l.take m) k = valTo l k := by
    intro k
    induction k with
    | zero => intro _; rfl
    | succ k ih =>
      intro hk
      show valTo (l.take m) k * 256 + ((l.take m).getD k 0).toNat = valTo l k * 256 + (l.getD k 0).toNat
      rw [ih (by omega), getD_take l m k (by omega)]
  rw [this 8 (Nat.le_refl _)]
theorem rdX_one (p r : List Int) (h : p.length ≤ 4000) : rdX (oneL p ++ r) = p.length := by
  unfold oneL
  rw [List.append_assoc]
  exact rdX_be (by omega) (by omega) _
theorem drop_one (p r : List Int) : (oneL p ++ r).drop (8 + p.length) = r := by
  rw [List.drop_left' (by rw [oneL_len]; omega)]
theorem read_one (p r : List Int) : ((oneL p ++ r).drop 8).take p.length = p := by
  unfold oneL
  rw [List.append_assoc, drop_be, List.take_left' rfl]
theorem rdB_one {p r : List Int} {most : Int} (h : p.length ≤ 4000) (h1 : (p.length : Int) ≤ most) : rdBOk (oneL p ++ r) false most := by
  have e := rdX_one p r h
  refine ⟨by omega, ⟨rfl, by rw [List.length_append, oneL_len]; omega, by rw [e]; omega, by rw [e]; exact h1⟩, ?_⟩
  rw [e, List.length_append, oneL_len]
  omega
/-- what was cut short is not read to its end -/
theorem cut_bad {n : Int} {p t : List Int} {j : Nat} (hp : p.length ≤ 4000) (ht : t.length ≤ 4000) (hj : j < (be8 n ++ oneL p ++ oneL t).length)
    (h1 : rdOk ((be8 n ++ oneL p ++ oneL t).take j) false n n) {l1 : List Int} (e1 : l1 = ((be8 n ++ oneL p ++ oneL t).take j).drop 8)
    (h2 : rdBOk l1 false 200) {l2 : List Int} (e2 : l2 = l1.drop (8 + (rdX l1).toNat)) (h3 : rdBOk l2 false 200) : False := by
  have hl : (be8 n ++ oneL p ++ oneL t).length = 24 + p.length + t.length := by
    rw [List.length_append, List.length_append, be8_len, oneL_len, oneL_len]; omega
  rw [hl] at hj
  have a1 := h1.2.1
  rw [List.length_take, hl] at a1
  have q1 : l1 = (oneL p ++ oneL t).take (j - 8) := by rw [e1, List.append_assoc, List.drop_take, drop_be]
  have a2 := h2.2.1.2.1
  rw [q1, List.length_take] at a2
  have m1 : 8 ≤ j - 8 := by clear h1 h2 h3 e1 e2 q1; omega
  have x1 : rdX l1 = p.length := by rw [q1, rdX_take _ m1, rdX_one p _ hp]
  have a3 := h2.2.2
  rw [x1, q1, List.length_take, List.length_append, oneL_len, oneL_len] at a3
  have q2 : l2 = (oneL t).take (j - 16 - p.length) := by
    rw [e2, x1, q1, List.drop_take, Int.toNat_natCast, drop_one, show j - 8 - (8 + p.length) = j - 16 - p.length by omega]
  have a4 := h3.2.1.2.1
  rw [q2, List.length_take, oneL_len] at a4
  have m2 : 8 ≤ j - 16 - p.length := by clear h1 h2 h3 e1 e2 q1 q2 x1; omega
  have x2 : rdX l2 = t.length := by
    have e := rdX_one t [] ht
    rw [List.append_nil] at e
    rw [q2, rdX_take _ m2, e]
  have a5 := h3.2.2
  rw [x2, q2, List.length_take, oneL_len] at a5
  clear h1 h2 h3 e1 e2 q1 q2 x1 x2
  omega

/-- a reader is asked, whatever comes of it -/
theorem ask_num {pr : Nat → Nat → Nat → List Int → Bool → World → Prop} (P : CodeOk pr) {B U g : Nat} {l : List Int} {bad : Bool} (lo hi : Int) {w : World} (h : pr B U g l bad w) (hf : Fit 8 l) (hl : l.length ≤ 10000) :
    Calls Tryd.prog 20 #[.pointer (some ⟨g, 0, none⟩), .int .i64 lo, .int .i64 hi] w fun e w' => ∃ v l' bad', e = .returned (.int .i64 v) ∧ Fit 8 l' ∧ l'.length ≤ 10000 ∧ pr B U g l' bad' w' ∧ w.grownBy w' (some g) ∧ (bad' = false → rdOk l bad lo hi ∧ l' = l.drop 8) := by
  by_cases hk : rdOk l bad lo hi
  · obtain rfl : bad = false := hk.1
    exact (P.num_yes B U g l lo hi w h hf hl hk).mono fun e w' q => ⟨_, _, _, q.1, fit_drop hf 8, by rw [List.length_drop]; omega, q.2.1, q.2.2, fun _ => ⟨hk, rfl⟩⟩
  · refine (P.num_no B U g l bad lo hi w h hf hl hk).mono ?_
    rintro e w' ⟨q1, ⟨l', q2, q3, q4⟩, q5⟩
    exact ⟨_, l', true, q1, q2, by omega, q4, q5, fun e => by cases e⟩
theorem ask_bytes {pr : Nat → Nat → Nat → List Int → Bool → World → Prop} (P : CodeOk pr) {B U g : Nat} {l : List Int} {bad : Bool} (most : Int) {w : World} (h : pr B U g l bad w) (hf : Fit 8 l) (hl : l.length ≤ 10000) :
    Calls Tryd.prog 22 #[.pointer (some ⟨g, 0, none⟩), .int .i64 most] w fun e w' => ∃ v l' bad', e = .returned v ∧ Fit 8 l' ∧ l'.length ≤ 10000 ∧ pr B U g l' bad' w' ∧ w.grownBy w' (some g) ∧ (bad' = false → rdBOk l bad most ∧ l' = l.drop (8 + (rdX l).toNat)) := by
  by_cases hk : rdBOk l bad most
  · obtain rfl : bad = false := hk.2.1.1
    refine (P.bytes_yes B U g l most w h hf hl hk).mono ?_
    rintro e w' ⟨A', c', q1, _, q2, q3⟩
    exact ⟨_, _, _, q1, fit_drop hf _, by rw [List.length_drop]; omega, q2, q3, fun _ => ⟨hk, rfl⟩⟩
  · refine (P.bytes_no B U g l bad most w h hf hl hk).mono ?_
    rintro e w' ⟨q1, ⟨l', q2, q3, q4⟩, q5⟩
    exact ⟨_, l', true, q1, q2, by omega, q4, q5, fun e => by cases e⟩
theorem ask_text {pr : Nat → Nat → Nat → List Int → Bool → World → Prop} (P : CodeOk pr) {B U g : Nat} {l : List Int} {bad : Bool} (most : Int) {w : World} (h : pr B U g l bad w) (hf : Fit 8 l) (hl : l.length ≤ 10000) :
    Calls Tryd.prog 24 #[.pointer (some ⟨g, 0, none⟩), .int .i64 most] w fun e w' => ∃ v l' bad', e = .returned v ∧ Fit 8 l' ∧ l'.length ≤ 10000 ∧ pr B U g l' bad' w' ∧ w.grownBy w' (some g) ∧ (bad' = false → rdBOk l bad most ∧ l' = l.drop (8 + (rdX l).toNat)) := by
  by_cases hk : rdBOk l bad most
  · obtain rfl : bad = false := hk.2.1.1
    refine (P.text_yes B U g l most w h hf hl hk).mono ?_
    rintro e w' ⟨q1, q2, q3⟩
    exact ⟨_, _, _, q1, fit_drop hf _, by rw [List.length_drop]; omega, q2, q3, fun _ => ⟨hk, rfl⟩⟩
  · refine (P.text_no B U g l bad most w h hf hl hk).mono ?_
    rintro e w' ⟨q1, ⟨l', q2, q3, q4⟩, q5⟩
    exact ⟨_, l', true, q1, q2, by omega, q4, q5, fun e => by cases e⟩
theorem strOf_nums (s : ByteArray) : strOfNums (strNums s) = s := by
  unfold strOfNums strNums
  apply ByteArray.ext
  apply Array.toList_inj.mp
  apply List.ext_getElem
  · simp
  · intro i h1 h2
    simp
theorem strNums_fit (s : ByteArray) : Fit 8 (strNums s) := fun i hi => by
  unfold strNums at hi ⊢
  rw [List.length_map] at hi
  rw [List.getD_eq_getElem?_getD, List.getElem?_map, List.getElem?_eq_getElem hi]
  simp only [Option.map_some, Option.getD_some]
  have := (s.data.toList[i]).toNat_lt
  have e2 : (2 : Int) ^ 8 = 256 := by decide
  omega
end Go.Proofs.YtmegjjfgiibobaaDoor
