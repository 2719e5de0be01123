/- Several texts in one: Mg, Ml, Nk, Nm. -/
import Derived.Test.YtoigpehpgpogfaaDoorMf
import Derived.Test.YtoigpehpgpogfaaDoorOa
/- Hints that were laid are read again. Nothing of the program. -/
namespace Go.Proofs.YtoigpehpgpogfaaDoor
open Go.RowKit Slices Go.Proofs.YtoigpehpgpogfaaDoor.Bit

theorem oneAt_mem (f : List Int) : ∀ (t x : Nat), x ∈ oneAt f t ↔ x < t ∧ f.getD x 0 = 1 := by
  intro t
  induction t with
  | zero =>
    intro x
    constructor
    · intro h; cases h
    · intro h; omega
  | succ t ih =>
    intro x
    show x ∈ oneAt f t ++ (if f.getD t 0 = 1 then [t] else []) ↔ _
    rw [List.mem_append, ih]
    by_cases e : f.getD t 0 = 1
    · rw [if_pos e, List.mem_singleton]
      constructor
      · rintro (⟨h1, h2⟩ | rfl)
        · exact ⟨by omega, h2⟩
        · exact ⟨by omega, e⟩
      · rintro ⟨h1, h2⟩
        by_cases g : x = t
        · exact .inr g
        · exact .inl ⟨by omega, h2⟩
    · rw [if_neg e]
      constructor
      · rintro (⟨h1, h2⟩ | h)
        · exact ⟨by omega, h2⟩
        · cases h
      · rintro ⟨h1, h2⟩
        by_cases g : x = t
        · subst g; exact absurd h2 e
        · exact .inl ⟨by omega, h2⟩
/-- the first i polys' places begin all places -/
theorem places_at (h : List (List Int)) {n : Nat} : ∀ {i K : Nat}, i ≤ K → n < (places h i).length → (places h K).getD n 0 = (places h i).getD n 0 := by
  intro i K hi hn
  induction K with
  | zero => have : i = 0 := by omega
            subst this; rfl
  | succ K ih =>
    by_cases e : i = K + 1
    · subst e; rfl
    · rw [← ih (by omega)]
      show (places h K ++ _).getD n 0 = _
      have := places_le h (i := i) (j := K) (by omega)
      rw [List.getD_eq_getElem?_getD, List.getElem?_append_left (by omega), ← List.getD_eq_getElem?_getD]
theorem out_place {K W : Nat} {P : List Nat} {C : List Int} {n : Nat} (hn : n < P.length) : (outL K W P C).getD n 0 = ((P.getD n 0 : Nat) : Int) := by
  unfold outL
  rw [List.append_assoc, List.getD_eq_getElem?_getD, List.getElem?_append_left (by rw [int_len]; exact hn), ← List.getD_eq_getElem?_getD, int_at]
theorem out_count {K W : Nat} {P : List Nat} {C : List Int} {i : Nat} (hP : P.length ≤ W) (hi : i < C.length) : (outL K W P C).getD (W + i) 0 = C.getD i 0 := by
  unfold outL
  have e1 : (int P ++ List.replicate (W - P.length) 0).length = W := by simp only [List.length_append, int_len, List.length_replicate]; omega
  rw [List.getD_eq_getElem?_getD, List.getElem?_append_right (by rw [e1]; omega), e1, Nat.add_sub_cancel_left, List.getElem?_append_left hi, ← List.getD_eq_getElem?_getD]
theorem counts_at (h : List (List Int)) {K i : Nat} (hi : i < K) : (counts h K).getD i 0 = ((places h (i + 1)).length : Int) := by
  unfold counts
  rw [List.getD_eq_getElem?_getD, List.getElem?_map, List.getElem?_range hi]; rfl
theorem end_hints {K W : Nat} {h : List (List Int)} (hP : (places h K).length ≤ W) : ∀ i, i ≤ K → endAt W (hintsL K W h) i = (places h i).length := by
  intro i
  induction i with
  | zero => intro _; rfl
  | succ i ih =>
    intro hi
    show max (endAt W (hintsL K W h) i) (min W ((hintsL K W h).getD (W + i) 0).toNat) = _
    have e : (hintsL K W h).getD (W + i) 0 = ((places h (i + 1)).length : Int) := by
      unfold hintsL
      rw [out_count hP (by rw [counts_len]; omega), counts_at h (by omega)]
    rw [ih (by omega), e]
    have a := places_le h (i := i) (j := i + 1) (by omega)
    have b := places_le h (i := i + 1) (j := K) hi
    simp
    omega
/-- what is marked: ones at just those places -/
theorem mark_at (b : List Int) (lo : Nat) (Q : List Nat) : ∀ c, c ≤ Q.length → (∀ t, t < Q.length → b.getD (lo + t) 0 = ((Q.getD t 0 : Nat) : Int)) → ∀ j, j < 256 → (mark b lo c).getD j 0 = if j ∈ Q.take c then 1 else 0 := by
  intro c
  induction c with
  | zero =>
    intro _ _ j hj
    show (List.replicate 256 (0 : Int)).getD j 0 = _
    rw [zeros_at]; simp
  | succ c ih =>
    intro hc hb j hj
    have hih := ih (by omega) hb j hj
    have hcl : c < Q.length := by omega
    show ((mark b lo c).set (b.getD (lo + c) 0).toNat 1).getD j 0 = _
    rw [hb c hcl, Int.toNat_natCast]
    have et : Q.take (c + 1) = Q.take c ++ [Q.getD c 0] := by
      rw [List.take_add_one, List.getElem?_eq_getElem hcl, List.getD_eq_getElem?_getD, List.getElem?_eq_getElem hcl]; rfl
    rw [et]
    by_cases e : Q.getD c 0 = j
    · rw [e, List.getD_eq_getElem?_getD, List.getElem?_set_self (by rw [mark_len]; exact hj), if_pos (by simp)]; rfl
    · rw [List.getD_eq_getElem?_getD, List.getElem?_set_ne e, ← List.getD_eq_getElem?_getD, hih]
      by_cases g : j ∈ Q.take c
      · rw [if_pos g, if_pos (by rw [List.mem_append]; exact .inl g)]
      · rw [if_neg g, if_neg]
        rw [List.mem_append, List.mem_singleton]
        rintro (q | q)
        · exact g q
        · exact e q.symm
theorem read_poly {K W : Nat} {h : List (List Int)} (hs : HintShape K h) (hP : (places h K).length ≤ W) {i : Nat} (hi : i < K) : readP W (hintsL K W h) i = h.getD i [] := by
  unfold readP
  rw [end_hints hP i (by omega), end_hints hP (i + 1) (by omega)]
  have hp := hs.2 i hi
  have hlen : (places h (i + 1)).length = (places h i).length + (oneAt (h.getD i []) 256).length := by
    show List.length (_ ++ _) = _
    rw [List.length_append]
  have hq : ∀ t, t < (oneAt (h.getD i []) 256).length → (hintsL K W h).getD ((places h i).length + t) 0 = (((oneAt (h.getD i []) 256).getD t 0 : Nat) : Int) := fun t ht => by
    unfold hintsL
    have hle := places_le h (i := i + 1) (j := K) (by omega)
    rw [out_place (by omega), places_at h (i := i + 1) (by omega) (by omega)]
    show (((places h i ++ oneAt (h.getD i []) 256).getD _ 0 : Nat) : Int) = _
    rw [List.getD_eq_getElem?_getD, List.getElem?_append_right (by omega), Nat.add_sub_cancel_left, ← List.getD_eq_getElem?_getD]
  have hc : (places h (i + 1)).length - (places h i).length = (oneAt (h.getD i []) 256).length := by omega
  rw [hc]
  have hm := mark_at (hintsL K W h) (places h i).length (oneAt (h.getD i []) 256) _ (Nat.le_refl _) hq
  rw [List.take_length] at hm
  apply List.ext_getElem (by rw [mark_len, hp.1])
  intro j h1 h2
  have hj : j < 256 := by rw [mark_len] at h1; exact h1
  have e := hm j hj
  rw [List.getD_eq_getElem?_getD, List.getElem?_eq_getElem h1] at e
  simp only [Option.getD_some] at e
  rw [e]
  have e3 : (h.getD i []).getD j 0 = (h.getD i [])[j] := by rw [List.getD_eq_getElem?_getD (l := h.getD i []), List.getElem?_eq_getElem h2]; rfl
  rw [← e3]
  by_cases g : j ∈ oneAt (h.getD i []) 256
  · rw [if_pos g, ((oneAt_mem _ _ _).mp g).2]
  · rw [if_neg g]
    rcases hp.2 j hj with q | q
    · exact q.symm
    · exact absurd ((oneAt_mem _ _ _).mpr ⟨hj, q⟩) g
theorem read_hints {K W : Nat} {h : List (List Int)} (hs : HintShape K h) (hP : (places h K).length ≤ W) : readL W (hintsL K W h) K = h := by
  apply List.ext_getElem?
  intro i
  by_cases hi : i < K
  · have h2 : i < h.length := by rw [hs.1]; exact hi
    have e := read_poly hs hP hi
    unfold readL
    rw [List.getElem?_map, List.getElem?_range hi, Option.map_some, e, List.getD_eq_getElem?_getD, List.getElem?_eq_getElem h2]; rfl
  · rw [List.getElem?_eq_none (by rw [readL_len]; omega), List.getElem?_eq_none (by rw [hs.1]; omega)]
end Go.Proofs.YtoigpehpgpogfaaDoor

/- How many ones there are, where one is written. Nothing of the program. -/
namespace Go.Proofs.YtoigpehpgpogfaaDoor
open Go.RowKit Slices Go.Proofs.YtoigpehpgpogfaaDoor.Bit

theorem oneAt_len_succ (f : List Int) (t : Nat) : (oneAt f (t + 1)).length = (oneAt f t).length + (if f.getD t 0 = 1 then 1 else 0) := by
  show List.length (_ ++ _) = _
  rw [List.length_append]
  split <;> simp
theorem getD_set (f : List Int) (b : Nat) (x : Int) (hb : b < f.length) (t : Nat) : (f.set b x).getD t 0 = if t = b then x else f.getD t 0 := by
  by_cases e : t = b
  · subst e; rw [if_pos rfl, List.getD_eq_getElem?_getD, List.getElem?_set_self hb]; rfl
  · rw [if_neg e, List.getD_eq_getElem?_getD, List.getElem?_set_ne (by omega), ← List.getD_eq_getElem?_getD]
theorem oneAt_set {f : List Int} {b : Nat} (hb : b < f.length) (h0 : f.getD b 0 ≠ 1) : ∀ t, (oneAt (f.set b 1) t).length = (oneAt f t).length + (if b < t then 1 else 0) := by
  intro t
  induction t with
  | zero => rfl
  | succ t ih =>
    rw [oneAt_len_succ, oneAt_len_succ, ih, getD_set f b 1 hb]
    by_cases e : t = b
    · subst e
      have e1 : (if t < t then 1 else 0) = 0 := if_neg (by omega)
      have e2 : (if t < t + 1 then 1 else 0) = 1 := if_pos (by omega)
      rw [if_pos rfl, if_pos rfl, if_neg h0, e1, e2]
    · rw [if_neg e]
      by_cases g : b < t
      · have e1 : (if b < t then 1 else 0) = 1 := if_pos g
        have e2 : (if b < t + 1 then 1 else 0) = 1 := if_pos (by omega)
        rw [e1, e2]; omega
      · have e1 : (if b < t then 1 else 0) = 0 := if_neg g
        have e2 : (if b < t + 1 then 1 else 0) = 0 := if_neg (by omega)
        rw [e1, e2]; omega
theorem getD_setL (h : List (List Int)) (a : Nat) (f : List Int) (ha : a < h.length) (i : Nat) : (h.set a f).getD i [] = if i = a then f else h.getD i [] := by
  by_cases e : i = a
  · subst e; rw [if_pos rfl, List.getD_eq_getElem?_getD, List.getElem?_set_self ha]; rfl
  · rw [if_neg e, List.getD_eq_getElem?_getD, List.getElem?_set_ne (by omega), ← List.getD_eq_getElem?_getD]
theorem places_set {h : List (List Int)} {a b : Nat} (ha : a < h.length) (hb : b < (h.getD a []).length) (hb2 : b < 256) (h0 : (h.getD a []).getD b 0 ≠ 1) :
    ∀ K, (places (h.set a ((h.getD a []).set b 1)) K).length = (places h K).length + (if a < K then 1 else 0) := by
  intro K
  induction K with
  | zero => rfl
  | succ K ih =>
    show List.length (_ ++ _) = List.length (_ ++ _) + _
    rw [List.length_append, List.length_append, ih, getD_setL h a _ ha]
    by_cases e : K = a
    · subst e
      have e1 : (if K < K then 1 else 0) = 0 := if_neg (by omega)
      have e2 : (if K < K + 1 then 1 else 0) = 1 := if_pos (by omega)
      have e3 : (if b < 256 then 1 else 0) = 1 := if_pos hb2
      rw [if_pos rfl, oneAt_set hb h0, e1, e2, e3]; omega
    · rw [if_neg e]
      by_cases g : a < K
      · have e1 : (if a < K then 1 else 0) = 1 := if_pos g
        have e2 : (if a < K + 1 then 1 else 0) = 1 := if_pos (by omega)
        rw [e1, e2]; omega
      · have e1 : (if a < K then 1 else 0) = 0 := if_neg g
        have e2 : (if a < K + 1 then 1 else 0) = 0 := if_neg (by omega)
        rw [e1, e2]; omega
theorem shape_set {K : Nat} {h : List (List Int)} (hs : HintShape K h) {a b : Nat} (ha : a < K) (hb : b < 256) : HintShape K (h.set a ((h.getD a []).set b 1)) := by
  refine ⟨by rw [List.length_set]; exact hs.1, fun i hi => ?_⟩
  rw [getD_setL h a _ (by rw [hs.1]; exact ha)]
  by_cases e : i = a
  · rw [if_pos e]
    have hp := hs.2 a ha
    refine ⟨by rw [List.length_set]; exact hp.1, fun j hj => ?_⟩
    rw [getD_set _ b 1 (by rw [hp.1]; exact hb)]
    split
    · exact .inr rfl
    · exact hp.2 j hj
  · rw [if_neg e]; exact hs.2 i hi
theorem zero_poly : HintPoly (List.replicate 256 0) := ⟨List.length_replicate, fun j _ => .inl (zeros_at 256 j)⟩
theorem oneAt_zero (t : Nat) : oneAt (List.replicate 256 0) t = [] := by
  induction t with
  | zero => rfl
  | succ t ih =>
    show oneAt _ t ++ (if _ then _ else _) = []
    rw [ih, zeros_at, if_neg (by omega)]; rfl
end Go.Proofs.YtoigpehpgpogfaaDoor

/- Bytes that a strict reader of hints takes are those that are laid of some hints. Nothing of the program. -/
namespace Go.Proofs.YtoigpehpgpogfaaDoor
open Go.RowKit Slices Go.Proofs.YtoigpehpgpogfaaDoor.Bit

def Rise (q : List Int) : Prop := ∀ j, j + 1 < q.length → q.getD j 0 < q.getD (j + 1) 0
/-- where the places of the first i polys end, as the bytes say -/
def stop (W : Nat) (b : List Int) : Nat → Nat
  | 0 => 0
  | i + 1 => (b.getD (W + i) 0).toNat
def piece (b : List Int) (lo hi : Nat) : List Int := (b.drop lo).take (hi - lo)
theorem piece_len {b : List Int} {lo hi : Nat} (h : hi ≤ b.length) (hl : lo ≤ hi) : (piece b lo hi).length = hi - lo := by
  unfold piece; rw [List.length_take, List.length_drop]; omega
theorem piece_at {b : List Int} {lo hi t : Nat} (ht : t < hi - lo) : (piece b lo hi).getD t 0 = b.getD (lo + t) 0 := by
  unfold piece
  rw [List.getD_eq_getElem?_getD, List.getElem?_take_of_lt ht, List.getElem?_drop, ← List.getD_eq_getElem?_getD]
def Good1 (W : Nat) (b : List Int) (i : Nat) : Prop := stop W b i ≤ stop W b (i + 1) ∧ stop W b (i + 1) ≤ W ∧ Rise (piece b (stop W b i) (stop W b (i + 1)))
def GoodAll (K W : Nat) (b : List Int) : Prop := (∀ i, i < K → Good1 W b i) ∧ ∀ j, stop W b K ≤ j → j < W → b.getD j 0 = 0
theorem stop_le {W k : Nat} {b : List Int} (h : ∀ i, i < k → Good1 W b i) : ∀ i, i ≤ k → stop W b i ≤ W := by
  intro i hi
  cases i with
  | zero => exact Nat.zero_le _
  | succ i => exact (h i (by omega)).2.1
theorem stop_end {W k : Nat} {b : List Int} (h : ∀ i, i < k → Good1 W b i) : ∀ i, i ≤ k → endAt W b i = stop W b i := by
  intro i
  induction i with
  | zero => intro _; rfl
  | succ i ih =>
    intro hi
    have e := ih (by omega)
    have g := h i (by omega)
    show max (endAt W b i) (min W (b.getD (W + i) 0).toNat) = (b.getD (W + i) 0).toNat
    have g1 : stop W b i ≤ (b.getD (W + i) 0).toNat := g.1
    have g2 : (b.getD (W + i) 0).toNat ≤ W := g.2.1
    rw [e]
    omega
theorem mark_piece {b : List Int} {lo hi : Nat} : ∀ c, c ≤ hi - lo → mark (piece b lo hi) 0 c = mark b lo c := by
  intro c
  induction c with
  | zero => intro _; rfl
  | succ c ih =>
    intro hc
    show (mark (piece b lo hi) 0 c).set _ _ = (mark b lo c).set _ _
    rw [ih (by omega), Nat.zero_add, piece_at (by omega)]

/-! lists that rise -/
theorem sorted_ext : ∀ (l m : List Nat), l.Pairwise (· < ·) → m.Pairwise (· < ·) → (∀ x, x ∈ l ↔ x ∈ m) → l = m := by
  intro l
  induction l with
  | nil =>
    intro m _ _ h
    cases m with
    | nil => rfl
    | cons y m => exact absurd ((h y).2 (List.mem_cons_self ..)) (by simp)
  | cons x l ih =>
    intro m hl hm h
    cases m with
    | nil => exact absurd ((h x).1 (List.mem_cons_self ..)) (by simp)
    | cons y m =>
      rw [List.pairwise_cons] at hl hm
      have e : x = y := by
        rcases List.mem_cons.1 ((h x).1 (List.mem_cons_self ..)) with q | q
        · exact q
        · rcases List.mem_cons.1 ((h y).2 (List.mem_cons_self ..)) with r | r
          · exact r.symm
          · have := hl.1 y r
            have := hm.1 x q
            omega
      subst e
      congr 1
      refine ih m hl.2 hm.2 fun z => ?_
      constructor
      · intro hz
        rcases List.mem_cons.1 ((h z).1 (List.mem_cons_of_mem _ hz)) with q | q
        · have := hl.1 z hz; omega
        · exact q
      · intro hz
        rcases List.mem_cons.1 ((h z).2 (List.mem_cons_of_mem _ hz)) with q | q
        · have := hm.1 z hz; omega
        · exact q
theorem oneAt_sorted (f : List Int) : ∀ t, (oneAt f t).Pairwise (· < ·) := by
  intro t
  induction t with
  | zero => exact List.Pairwise.nil
  | succ t ih =>
    show (oneAt f t ++ (if f.getD t 0 = 1 then [t] else [])).Pairwise (· < ·)
    rw [List.pairwise_append]
    refine ⟨ih, ?_, fun a ha b hb => ?_⟩
    · split
      · exact List.pairwise_singleton ..
      · exact List.Pairwise.nil
    · split at hb
      · have := oneAt_lt f t a ha
        simp at hb
        omega
      · cases hb
theorem rise_far {q : List Int} (h : Rise q) : ∀ j i, i < j → j < q.length → q.getD i 0 < q.getD j 0 := by
  intro j
  induction j with
  | zero => intro i hi; omega
  | succ j ih =>
    intro i hi hj
    have h1 := h j hj
    by_cases e : i = j
    · subst e; exact h1
    · have := ih i (by omega) (by omega)
      omega
theorem rise_sorted {q : List Int} (h : Rise q) (hf : Fit 8 q) : (nat q).Pairwise (· < ·) := by
  rw [List.pairwise_iff_getElem]
  intro i j hi hj hij
  rw [nat_len] at hi hj
  have h1 := rise_far h j i hij hj
  have f1 := hf i hi
  have e1 := nat_at q i
  have e2 := nat_at q j
  rw [List.getD_eq_getElem?_getD (l := nat q), List.getElem?_eq_getElem (by rw [nat_len]; exact hi)] at e1
  rw [List.getD_eq_getElem?_getD (l := nat q), List.getElem?_eq_getElem (by rw [nat_len]; exact hj)] at e2
  simp only [Option.getD_some] at e1 e2
  rw [e1, e2]
  omega
theorem sorted_rise {l : List Nat} (h : l.Pairwise (· < ·)) {j : Nat} (hj : j + 1 < l.length) : l.getD j 0 < l.getD (j + 1) 0 := by
  rw [List.pairwise_iff_getElem] at h
  have := h j (j + 1) (by omega) hj (by omega)
  rw [List.getD_eq_getElem?_getD, List.getD_eq_getElem?_getD, List.getElem?_eq_getElem (by omega), List.getElem?_eq_getElem hj]
  exact this
theorem fit_piece {b : List Int} (h : Fit 8 b) {lo hi : Nat} (hh : hi ≤ b.length) (hl : lo ≤ hi) : Fit 8 (piece b lo hi) := fun i hi' => by
  rw [piece_len hh hl] at hi'
  rw [piece_at hi']
  exact h _ (by omega)
/-- the ones that were set at places that rise stand at these places -/
theorem oneAt_mark {b : List Int} {lo hi : Nat} (hf : Fit 8 b) (hh : hi ≤ b.length) (hl : lo ≤ hi) (hr : Rise (piece b lo hi)) : oneAt (mark b lo (hi - lo)) 256 = nat (piece b lo hi) := by
  have hfp := fit_piece hf hh hl
  have hlen : (nat (piece b lo hi)).length = hi - lo := by rw [nat_len, piece_len hh hl]
  have hq : ∀ t, t < (nat (piece b lo hi)).length → b.getD (lo + t) 0 = (((nat (piece b lo hi)).getD t 0 : Nat) : Int) := fun t ht => by
    rw [hlen] at ht
    rw [nat_at, piece_at ht]
    have := hf (lo + t) (by omega)
    omega
  have hm := mark_at b lo (nat (piece b lo hi)) (hi - lo) (by omega) hq
  rw [List.take_of_length_le (by omega)] at hm
  refine sorted_ext _ _ (oneAt_sorted _ _) (rise_sorted hr hfp) fun x => ?_
  rw [oneAt_mem]
  constructor
  · rintro ⟨h1, h2⟩
    rw [hm x h1] at h2
    by_cases g : x ∈ nat (piece b lo hi)
    · exact g
    · rw [if_neg g] at h2; omega
  · intro g
    have hx : x < 256 := by
      obtain ⟨i, hi', e⟩ := List.mem_iff_getElem.1 g
      rw [hlen] at hi'
      have f := hfp i (by rw [piece_len hh hl]; exact hi')
      have e1 := nat_at (piece b lo hi) i
      rw [List.getD_eq_getElem?_getD (l := nat _), List.getElem?_eq_getElem (by omega)] at e1
      simp only [Option.getD_some] at e1
      rw [e] at e1
      omega
    exact ⟨hx, by rw [hm x hx, if_pos g]⟩

theorem mark_poly (b : List Int) (lo : Nat) : ∀ c, HintPoly (mark b lo c) := by
  intro c
  refine ⟨mark_len b lo c, ?_⟩
  induction c with
  | zero => intro j _; exact .inl (zeros_at 256 j)
  | succ c ih =>
    intro j hj
    rw [show mark b lo (c + 1) = (mark b lo c).set (b.getD (lo + c) 0).toNat 1 from rfl]
    by_cases e : (b.getD (lo + c) 0).toNat < 256
    · rw [getD_set _ _ _ (by rw [mark_len]; exact e)]
      split
      · exact .inr rfl
      · exact ih j hj
    · rw [List.set_eq_of_length_le (by rw [mark_len]; omega)]
      exact ih j hj
theorem read_shape (W : Nat) (b : List Int) (K : Nat) : HintShape K (readL W b K) := by
  refine ⟨readL_len W b K, fun i hi => ?_⟩
  unfold readL
  rw [List.getD_eq_getElem?_getD, List.getElem?_map, List.getElem?_range hi]
  exact mark_poly _ _ _
theorem read_at {W K i : Nat} {b : List Int} (hi : i < K) : (readL W b K).getD i [] = readP W b i := by
  unfold readL
  rw [List.getD_eq_getElem?_getD, List.getElem?_map, List.getElem?_range hi]; rfl

theorem out_zero {K W : Nat} {P : List Nat} {C : List Int} {n : Nat} (hn : P.length ≤ n) (hW : n < W) : (outL K W P C).getD n 0 = 0 := by
  unfold outL
  rw [List.append_assoc, List.getD_eq_getElem?_getD, List.getElem?_append_right (by rw [int_len]; exact hn), int_len, List.getElem?_append_left (by rw [List.length_replicate]; omega), List.getElem?_replicate, if_pos (by omega)]
  rfl
theorem getD_ext {l m : List Int} (hl : l.length = m.length) (h : ∀ j, j < l.length → l.getD j 0 = m.getD j 0) : l = m := by
  apply List.ext_getElem hl
  intro j h1 h2
  have e := h j h1
  rw [List.getD_eq_getElem?_getD, List.getD_eq_getElem?_getD, List.getElem?_eq_getElem h1, List.getElem?_eq_getElem h2] at e
  exact e

/-- what a strict reader takes is laid so of what it reads -/
theorem good_laid {K W : Nat} {b : List Int} (hlen : b.length = W + K) (hf : Fit 8 b) (h : GoodAll K W b) : (places (readL W b K) K).length ≤ W ∧ hintsL K W (readL W b K) = b := by
  have hpl : ∀ i, i ≤ K → places (readL W b K) i = nat (b.take (stop W b i)) := by
    intro i
    induction i with
    | zero => intro _; simp [places, stop, nat]
    | succ i ih =>
      intro hi
      have g := h.1 i (by omega)
      have hs := stop_le h.1 (i + 1) hi
      show places (readL W b K) i ++ oneAt ((readL W b K).getD i []) 256 = _
      rw [ih (by omega), read_at (by omega)]
      unfold readP
      rw [stop_end h.1 i (by omega), stop_end h.1 (i + 1) hi, oneAt_mark hf (by omega) g.1 g.2.2]
      have e : b.take (stop W b (i + 1)) = b.take (stop W b i) ++ piece b (stop W b i) (stop W b (i + 1)) := by
        unfold piece
        rw [← List.take_add]
        congr 1
        have := g.1
        omega
      rw [e]
      simp [nat]
  have hll : ∀ i, i ≤ K → (places (readL W b K) i).length = stop W b i := fun i hi => by
    rw [hpl i hi, nat_len, List.length_take]
    have := stop_le h.1 i hi
    omega
  have hW : (places (readL W b K) K).length ≤ W := by rw [hll K (Nat.le_refl _)]; exact stop_le h.1 K (Nat.le_refl _)
  refine ⟨hW, ?_⟩
  have hol : (hintsL K W (readL W b K)).length = W + K := outL_len hW (by rw [counts_len]; exact Nat.le_refl _)
  refine getD_ext (by rw [hol, hlen]) fun j hj => ?_
  rw [hol] at hj
  unfold hintsL
  by_cases h1 : j < (places (readL W b K) K).length
  · rw [out_place h1]
    have h2 := h1
    rw [hll K (Nat.le_refl _)] at h2
    rw [hpl K (Nat.le_refl _), nat_at, getD_take _ _ _ h2]
    have := hf j (by omega)
    omega
  · by_cases h2 : j < W
    · rw [out_zero (by omega) h2]
      rw [hll K (Nat.le_refl _)] at h1
      exact (h.2 j (by omega) h2).symm
    · obtain ⟨i, rfl⟩ : ∃ i, j = W + i := ⟨j - W, by omega⟩
      rw [out_count hW (by rw [counts_len]; omega), counts_at _ (by omega), hll (i + 1) (by omega)]
      show (((b.getD (W + i) 0).toNat : Nat) : Int) = _
      have := hf (W + i) (by omega)
      omega
/-- what is laid a strict reader takes -/
theorem laid_good {K W : Nat} {h : List (List Int)} (hP : (places h K).length ≤ W) : GoodAll K W (hintsL K W h) := by
  have hst : ∀ i, i ≤ K → stop W (hintsL K W h) i = (places h i).length := by
    intro i hi
    cases i with
    | zero => rfl
    | succ i =>
      show ((outL K W (places h K) (counts h K)).getD (W + i) 0).toNat = _
      rw [out_count hP (by rw [counts_len]; omega), counts_at _ (by omega)]
      simp
  refine ⟨fun i hi => ?_, fun j h1 h2 => ?_⟩
  · have hle : (places h (i + 1)).length ≤ (places h K).length := places_le h (by omega)
    have hlen : (places h (i + 1)).length = (places h i).length + (oneAt (h.getD i []) 256).length := by
      show List.length (_ ++ _) = _
      rw [List.length_append]
    refine ⟨by rw [hst i (by omega), hst (i + 1) (by omega)]; omega, by rw [hst (i + 1) (by omega)]; omega, ?_⟩
    rw [hst i (by omega), hst (i + 1) (by omega)]
    have hol : (hintsL K W h).length = W + K := outL_len hP (by rw [counts_len]; exact Nat.le_refl _)
    intro j hj
    rw [piece_len (by omega) (by omega)] at hj
    have hat : ∀ t, t < (oneAt (h.getD i []) 256).length → (hintsL K W h).getD ((places h i).length + t) 0 = (((oneAt (h.getD i []) 256).getD t 0 : Nat) : Int) := fun t ht => by
      unfold hintsL
      rw [out_place (by omega), places_at h (i := i + 1) (by omega) (by omega)]
      show (((places h i ++ oneAt (h.getD i []) 256).getD _ 0 : Nat) : Int) = _
      rw [List.getD_eq_getElem?_getD, List.getElem?_append_right (by omega), Nat.add_sub_cancel_left, ← List.getD_eq_getElem?_getD]
    rw [piece_at (by omega), piece_at (by omega), hat j (by omega), hat (j + 1) (by omega)]
    have := sorted_rise (oneAt_sorted (h.getD i []) 256) (j := j) (by omega)
    omega
  · rw [hst K (Nat.le_refl _)] at h1
    unfold hintsL
    exact out_zero h1 h2
theorem good_iff {s : Int} {b : List Int} (hf : Fit 8 b) (hlen : b.length = wOf s + kOf s) : GoodAll (kOf s) (wOf s) b ↔ UnOk s b := by
  constructor
  · intro h
    obtain ⟨h1, h2⟩ := good_laid hlen hf h
    exact ⟨hlen, hintsE_ok (read_shape _ _ _) h1, h2⟩
  · rintro ⟨_, h1, h2⟩
    have hP : (places (readL (wOf s) b (kOf s)) (kOf s)).length ≤ wOf s := by
      unfold hintsE at h1
      rw [if_pos (read_shape _ _ _)] at h1
      split at h1
      · omega
      · omega
    have := laid_good hP
    rwa [h2] at this
end Go.Proofs.YtoigpehpgpogfaaDoor

/- Contract: the program's poly with ones at places that rise. -/
namespace Go.Proofs.YtoigpehpgpogfaaDoor
open Go.RowKit Slices Go.Proofs.YtoigpehpgpogfaaDoor.Bit

/-- the poly of the first k places -/
def PaRow (w : World) (q : List Int) (g N k : Nat) (wr : World) : Prop :=
  wr.ownsRow w.heap.size 3 1 (.slice (some ⟨g, 0, none⟩) N N) N (ints .i64 (mark q 0 k)) ∧ Below w.heap.size w wr
/-- the first k rise -/
def RiseTo (q : List Int) (k : Nat) : Prop := ∀ j, j + 1 < k → q.getD j 0 < q.getD (j + 1) 0
/-- a poly, if the places rise; else none -/
def ResY (w : World) (q : List Int) (e : Ending) (w' : World) : Prop :=
  (Rise q ∧ ∃ g, e = .returned (.tuple #[.slice (some ⟨g, 0, none⟩) 256 256, .bool true]) ∧ w'.ownsRow w.heap.size 3 1 (.slice (some ⟨g, 0, none⟩) 256 256) 256 (ints .i64 (mark q 0 q.length)) ∧ Below w.heap.size w w') ∨
  (¬ Rise q ∧ e = .returned (.tuple #[.slice none 0 0, .bool false]) ∧ Below w.heap.size w w')

set_option maxRecDepth 100000 in
set_option maxHeartbeats 4000000 in
theorem polyAt_any (A : Option Addr) (c n : Nat) (q : List Int) (w : World) (hn : n = q.length) (h : Has .u8 w w.heap.size A q) (hf : Fit 8 q) (hl : q.length ≤ 4000) :
    Calls Tryd.prog 77 #[.slice A n c] w (ResY w q) := by
  subst hn
  obtain ⟨Z, z1, s1, m1⟩ := make_ints 256 (by omega)
  replace m1 : ∀ w : World, (Instr.makeSlice 22 (.int .i64 256) (.int .i64 256)).run Tryd.prog w = .ok (.slice (some ⟨w.heap.size, 0, none⟩) 256 256) (w.alloc (.cells Z 3)) := m1
  have HS : Hid (PaRow w q w.heap.size 256 0 (w.alloc (.cells Z 3))) := ⟨zero_own z1 s1 (by omega) (by omega) (Nat.le_refl _), (Below.refl _ _).alloc (Nat.le_refl _) _⟩
  have H := Lib.hid h
  have HF := Lib.hid hf
  clear h hf z1 s1
  go_enter Tryd.func77, Tryd.ntmps77
  go_wp2
  generalize hg : w.heap.size = g at HS
  have HGG := Lib.hid hg
  clear hg
  go_loopw [10] (fun i wr => ∃ k : Nat, k ≤ q.length ∧ i = .int .i64 k ∧ RiseTo q k ∧ PaRow w q g 256 k wr) (fun i _ => q.length - (intOf i).toNat)
  case atStart => exact ⟨0, by omega, rfl, fun j hj => by omega, HS.out⟩
  case round =>
    obtain ⟨k, hk, rfl, hri, hrow⟩ := hrel
    have HR := Lib.hid hrow
    have HRI := Lib.hid hri
    clear hrow hri HS
    by_cases hlt : k < q.length
    · obtain ⟨a, rfl, hab, hac⟩ := (H.out.below HR.out.2) k hlt
      obtain ⟨x0, x1⟩ := HF.out k hlt
      obtain ⟨X, hX⟩ : ∃ X : Nat, q.getD k 0 = X := ⟨(q.getD k 0).toNat, by omega⟩
      have x2 : X < 256 := by have : (2 : Int) ^ 8 = 256 := by decide
                              omega
      obtain ⟨v0, hv0⟩ := own_spare HR.out.1 (k := X) x2
      have fX := HR.out.1.frozenAt X
      have hnx : PaRow w q g 256 (k + 1) (wr.setCell ⟨g, X, none⟩ (.int .i64 1)) := by
        refine ⟨?_, HR.out.2.setCell (own_block HR.out.1).1 _⟩
        have e : mark q 0 (k + 1) = (mark q 0 k).set X 1 := by
          show (mark q 0 k).set (q.getD (0 + k) 0).toNat 1 = _
          rw [Nat.zero_add, hX]; rfl
        rw [e]
        exact own_set HR.out.1 X _
      have HNX := Lib.hid hnx
      have HX := Lib.hid hX
      rw [hX] at hac
      clear hnx hX x0 x1
      by_cases hk0 : 0 < k
      · obtain ⟨a', ea, _, hac'⟩ := (H.out.below HR.out.2) (k - 1) (by omega)
        injection ea with ea
        subst ea
        obtain ⟨y0, y1⟩ := HF.out (k - 1) (by omega)
        obtain ⟨Y, hY⟩ : ∃ Y : Nat, q.getD (k - 1) 0 = Y := ⟨(q.getD (k - 1) 0).toNat, by omega⟩
        have y2 : Y < 256 := by have : (2 : Int) ^ 8 = 256 := by decide
                                omega
        have HY := Lib.hid hY
        rw [hY] at hac'
        clear hY y0 y1
        by_cases hxy : X ≤ Y
        · have d : decide (X ≤ Y) = true := by rw [decide_eq_true_iff]; exact hxy
          have HNO : Hid (¬ Rise q) := fun r => by
            have := r (k - 1) (by omega)
            rw [show k - 1 + 1 = k by omega, HX.out, HY.out] at this
            omega
          go_wp2
          go_ret2
          exact .inr ⟨HNO.out, rfl, HR.out.2⟩
        · have d : decide (X ≤ Y) = false := by rw [decide_eq_false_iff_not]; exact hxy
          have HRN : Hid (RiseTo q (k + 1)) := fun j hj => by
            by_cases e : j + 1 < k
            · exact HRI.out j e
            · have e : j = k - 1 := by omega
              subst e
              rw [show k - 1 + 1 = k by omega, HX.out, HY.out]
              omega
          go_wp2
          go_roundw
          case rel => exact ⟨k + 1, by omega, by go_num, HRN.out, HNX.out⟩
          case measure => simp [intOf]; omega
      · have e : k = 0 := by omega
        subst e
        rw [add_zero0] at hac
        go_wp2
        go_roundw
        case rel => exact ⟨1, by omega, by go_num, fun j hj => by omega, HNX.out⟩
        case measure => simp [intOf]; omega
    · have e : k = q.length := by omega
      subst e
      go_wp2
      go_ret2
      exact .inl ⟨HRI.out, g, rfl, HR.out.1, HR.out.2⟩
end Go.Proofs.YtoigpehpgpogfaaDoor

