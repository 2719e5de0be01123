/- Requests: their bodies, and what is read of bytes, as the chapter says. Nothing of the program. -/
import Derived.Test.YtidpihpddkfhgaaDoorCj
import Derived.Test.YtidpihpddkfhgaaDoorCh
namespace Go.Proofs.YtidpihpddkfhgaaDoor
open Go.RowKit Slices Go.Proofs.YtidpihpddkfhgaaDoor.Bit

theorem valTo_app (l r : List Int) : ∀ k, k ≤ l.length → valTo (l ++ r) k = valTo l k := by
  intro k
  induction k with
  | zero => intro _; rfl
  | succ k ih =>
    intro hk
    show valTo (l ++ r) k * 256 + ((l ++ r).getD k 0).toNat = valTo l k * 256 + (l.getD k 0).toNat
    rw [ih (by omega), List.getD_eq_getElem?_getD, List.getElem?_append_left (by omega), ← List.getD_eq_getElem?_getD]
def I64 (x : Int) : Prop := -9223372036854775808 ≤ x ∧ x ≤ 9223372036854775807
theorem rdX_be {n : Int} (h : I64 n) (r : List Int) : rdX (be8 n ++ r) = n := by
  unfold rdX
  rw [valTo_app _ _ 8 (by rw [be8_len]; omega), val_be8, wrap_u64 h.1 h.2]
theorem drop_be (n : Int) (r : List Int) : (be8 n ++ r).drop 8 = r := by rw [List.drop_left' (be8_len n)]
theorem rdX_i64 (l : List Int) : I64 (rdX l) := by
  unfold rdX I64 wrap64
  omega
theorem u64_wrap {V : Nat} (h : V < 18446744073709551616) : u64 (wrap64 (V : Int)) = V := by
  unfold u64 wrap64
  omega
theorem valTo_div {l : List Int} (hf : Fit 8 l) (h8 : 8 ≤ l.length) : ∀ j, j ≤ 8 → valTo l 8 / 256 ^ j = valTo l (8 - j) := by
  intro j
  induction j with
  | zero => intro _; rw [Nat.pow_zero, Nat.div_one]
  | succ j ih =>
    intro hj
    rw [Nat.pow_succ, ← Nat.div_div_eq_div_mul, ih (by omega), show 8 - j = (8 - (j + 1)) + 1 by omega]
    show (valTo l (8 - (j + 1)) * 256 + (l.getD (8 - (j + 1)) 0).toNat) / 256 = _
    have := hf (8 - (j + 1)) (by omega)
    have e : (2 : Int) ^ 8 = 256 := by decide
    omega
/-- the bytes of the number that eight bytes tell are these bytes -/
theorem be_rdX {l : List Int} (hf : Fit 8 l) (h8 : 8 ≤ l.length) : be8 (rdX l) ++ l.drop 8 = l := by
  have e : be8 (rdX l) = l.take 8 := by
    have hl : (l.take 8).length = 8 := by rw [List.length_take]; omega
    apply List.ext_getElem (by rw [be8_len, hl])
    intro i h1 h2
    have hi : i < 8 := by rw [be8_len] at h1; exact h1
    have e1 : (be8 (rdX l))[i] = (be8 (rdX l)).getD i 0 := by rw [List.getD_eq_getElem?_getD, List.getElem?_eq_getElem h1]; rfl
    have e2 : (l.take 8)[i] = l.getD i 0 := by rw [List.getElem_take, List.getD_eq_getElem?_getD, List.getElem?_eq_getElem (by omega)]; rfl
    refine e1.trans (Eq.trans ?_ e2.symm)
    show (beTo (rdX l) 8).getD i 0 = _
    rw [beTo_at _ hi]
    unfold byteAt
    have hv : u64 (rdX l) = valTo l 8 := u64_wrap (val_all hf h8)
    rw [hv, valTo_div hf h8 (7 - i) (by omega), show 8 - (7 - i) = i + 1 by omega]
    show (((valTo l i * 256 + (l.getD i 0).toNat) % 256 : Nat) : Int) = _
    have := hf i (by omega)
    have e : (2 : Int) ^ 8 = 256 := by decide
    omega
  rw [e, List.take_append_drop]

/-- a number that is read, of what is left (of none, if something was wrong) -/
def rN (s : Option (List Int)) (lo hi : Int) : Int × Option (List Int) := match s with
  | none => (0, none)
  | some l => if rdOk l false lo hi then (rdX l, some (l.drop 8)) else (0, none)
noncomputable instance (l : List Int) (bad : Bool) (most : Int) : Decidable (rdBOk l bad most) := Classical.propDecidable _
/-- bytes that are read -/
noncomputable def rB (s : Option (List Int)) (most : Int) : List Int × Option (List Int) := match s with
  | none => ([], none)
  | some l => if rdBOk l false most then ((l.drop 8).take (rdX l).toNat, some (l.drop (8 + (rdX l).toNat))) else ([], none)
theorem rN_be {n lo hi : Int} (h : I64 n) (r : List Int) (h2 : lo ≤ n) (h3 : n ≤ hi) : rN (some (be8 n ++ r)) lo hi = (n, some r) := by
  unfold rN
  have hk : rdOk (be8 n ++ r) false lo hi := ⟨rfl, by rw [List.length_append, be8_len]; omega, by rw [rdX_be h]; exact h2, by rw [rdX_be h]; exact h3⟩
  simp only [if_pos hk, rdX_be h, drop_be]
theorem rN_some {s : Option (List Int)} {lo hi x : Int} {l' : List Int} (hf : ∀ l, s = some l → Fit 8 l) (h : rN s lo hi = (x, some l')) : s = some (be8 x ++ l') ∧ I64 x ∧ lo ≤ x ∧ x ≤ hi ∧ Fit 8 l' := by
  unfold rN at h
  cases s with
  | none => cases h
  | some l =>
    simp only at h
    by_cases hk : rdOk l false lo hi
    · rw [if_pos hk] at h
      injection h with h1 h2
      injection h2 with h2
      subst h1
      subst h2
      exact ⟨by rw [be_rdX (hf l rfl) hk.2.1], rdX_i64 l, hk.2.2.1, hk.2.2.2, fit_drop (hf l rfl) 8⟩
    · rw [if_neg hk] at h
      cases h
theorem rB_be {p : List Int} {most : Int} (hp : p.length ≤ 100000) (r : List Int) (h : (p.length : Int) ≤ most) : rB (some (be8 p.length ++ (p ++ r))) most = (p, some r) := by
  have e : rdX (be8 p.length ++ (p ++ r)) = p.length := rdX_be ⟨by omega, by omega⟩ _
  have hk : rdBOk (be8 p.length ++ (p ++ r)) false most := ⟨by omega, ⟨rfl, by rw [List.length_append, be8_len]; omega, by rw [e]; omega, by rw [e]; exact h⟩, by rw [e, List.length_append, List.length_append, be8_len]; omega⟩
  unfold rB
  simp only [if_pos hk]
  rw [← List.drop_drop, e, drop_be, Int.toNat_natCast, List.take_left' rfl, List.drop_left' rfl]
theorem rB_some {s : Option (List Int)} {most : Int} {p l' : List Int} (hf : ∀ l, s = some l → Fit 8 l) (h : rB s most = (p, some l')) : s = some (be8 p.length ++ (p ++ l')) ∧ (p.length : Int) ≤ most ∧ Fit 8 p ∧ Fit 8 l' := by
  unfold rB at h
  cases s with
  | none => cases h
  | some l =>
    simp only at h
    by_cases hk : rdBOk l false most
    · rw [if_pos hk] at h
      obtain ⟨k0, k1, k2⟩ := hk
      have x0 : 0 ≤ rdX l := k1.2.2.1
      have x1 : rdX l ≤ most := k1.2.2.2
      have hl : ((l.drop 8).take (rdX l).toNat).length = (rdX l).toNat := by rw [List.length_take, List.length_drop]; omega
      injection h with h1 h2
      injection h2 with h2
      subst h1
      subst h2
      have hfl := hf l rfl
      refine ⟨?_, by rw [hl]; omega, ?_, fit_drop hfl _⟩
      · rw [hl, show (((rdX l).toNat : Nat) : Int) = rdX l by omega, ← List.drop_drop, List.take_append_drop, be_rdX hfl k1.2.1]
      · intro i hi
        rw [hl] at hi
        rw [getD_take _ _ _ hi]
        exact fit_drop hfl 8 i (by rw [List.length_drop]; omega)
    · rw [if_neg hk] at h
      cases h

theorem strNums_of {l : List Int} (h : Fit 8 l) : strNums (strOfNums l) = l := by
  unfold strNums strOfNums
  apply List.ext_getElem (by simp)
  intro i h1 h2
  have f := h i h2
  rw [List.getD_eq_getElem?_getD, List.getElem?_eq_getElem h2] at f
  simp only [Option.getD_some] at f
  simp only [List.getElem_map]
  have e2 : (2 : Int) ^ 8 = 256 := by decide
  simp [UInt8.toNat_ofNat']
  omega
theorem strOf_nums (s : ByteArray) : strOfNums (strNums s) = s := by
  unfold strNums strOfNums
  rw [List.map_map]
  have e : ((fun n : Int => UInt8.ofNat n.toNat) ∘ fun b : UInt8 => ((b.toNat : Nat) : Int)) = id := by
    funext b
    simp
  rw [e, List.map_id]
theorem strNums_fit (s : ByteArray) : Fit 8 (strNums s) := by
  intro i hi
  unfold strNums at hi ⊢
  rw [List.length_map] at hi
  rw [List.getD_eq_getElem?_getD, List.getElem?_map, List.getElem?_eq_getElem hi]
  have := (s.data.toList[i]).toNat_lt
  have e2 : (2 : Int) ^ 8 = 256 := by decide
  simp only [Option.map_some, Option.getD_some]
  omega

/-- a request's fields -/
structure AskV where
  who : Int
  nonce : Int
  op : Int
  tenant : Int
  key : Int
  version : Int
  set : Int
  grant : Int
  to : Int
  ops : Int
  till : Int
  name : ByteArray
  bytes : List Int
  token : List Int
/-- its numbers, in order -/
def numsA (a : AskV) : List Int := [a.who, a.nonce, a.op, a.tenant, a.key, a.version, a.set, a.grant, a.to, a.ops, a.till]
/-- its body -/
def laidA (a : AskV) : List Int := beL (numsA a) ++ (be8 a.name.size ++ strNums a.name) ++ partsB [a.bytes, a.token]
theorem laidA_len (a : AskV) : (laidA a).length = 112 + a.name.size + a.bytes.length + a.token.length := by
  unfold laidA
  rw [List.length_append, List.length_append, List.length_append, beL_len, be8_len, strNums_len]
  show 8 * 11 + _ + (be8 a.bytes.length ++ a.bytes ++ (be8 a.token.length ++ a.token ++ [])).length = _
  simp only [List.length_append, be8_len, List.length_nil]
  omega
def Clk (x : Int) : Prop := 0 ≤ x ∧ x ≤ 1099511627776
instance (x : Int) : Decidable (Clk x) := by unfold Clk; infer_instance
/-- a request may be -/
def MayA (a : AskV) : Prop := (1 ≤ a.who ∧ a.who ≤ 6) ∧ (1 ≤ a.nonce ∧ a.nonce ≤ 1099511627776) ∧ (1 ≤ a.op ∧ a.op ≤ 13) ∧ Clk a.tenant ∧ Clk a.key ∧ Clk a.version ∧ Clk a.set ∧ Clk a.grant ∧ Clk a.to ∧ Clk a.ops ∧ Clk a.till ∧ a.name.size ≤ 300 ∧ a.bytes.length ≤ 2000 ∧ a.token.length ≤ 100
instance (a : AskV) : Decidable (MayA a) := by unfold MayA; infer_instance
/-- its numbers are whole numbers of 64 bits, its bytes bytes -/
def WideA (a : AskV) : Prop := (∀ x ∈ numsA a, I64 x) ∧ Fit 8 a.bytes ∧ Fit 8 a.token
theorem may_nums {a : AskV} (h : MayA a) : ∀ x ∈ numsA a, I64 x := by
  obtain ⟨h1, h2, h3, h4, h5, h6, h7, h8, h9, h10, h11, _⟩ := h
  intro x hx
  unfold numsA at hx
  unfold Clk at *
  unfold I64
  simp only [List.mem_cons, List.not_mem_nil, or_false] at hx
  rcases hx with rfl | rfl | rfl | rfl | rfl | rfl | rfl | rfl | rfl | rfl | rfl <;> omega

/-- numbers that are read one behind the other, each within its bounds -/
def rNs (bs : List (Int × Int)) (s : Option (List Int)) : List Int × Option (List Int) := match bs with
  | [] => ([], s)
  | b :: r => ((rN s b.1 b.2).1 :: (rNs r (rN s b.1 b.2).2).1, (rNs r (rN s b.1 b.2).2).2)
theorem rNs_some : ∀ (bs : List (Int × Int)) {s : Option (List Int)} {l' : List Int}, (∀ l, s = some l → Fit 8 l) → (rNs bs s).2 = some l' → s = some (beL (rNs bs s).1 ++ l') ∧ Fit 8 l' ∧ (rNs bs s).1.length = bs.length := by
  intro bs
  induction bs with
  | nil => intro s l' hf h; exact ⟨h, hf l' h, rfl⟩
  | cons b r ih =>
    intro s l' hf h
    have h2 : (rNs r (rN s b.1 b.2).2).2 = some l' := h
    obtain ⟨x, s1, e⟩ : ∃ x s1, rN s b.1 b.2 = (x, s1) := ⟨_, _, rfl⟩
    have e1 : (rNs (b :: r) s).1 = x :: (rNs r s1).1 := by show (rN s b.1 b.2).1 :: (rNs r (rN s b.1 b.2).2).1 = _; rw [e]
    rw [e] at h2
    rw [e1]
    cases s1 with
    | none =>
      exfalso
      have : ∀ r : List (Int × Int), (rNs r none).2 = none := by
        intro r
        induction r with
        | nil => rfl
        | cons c t ih => show (rNs t (rN none c.1 c.2).2).2 = none; exact ih
      have h3 : (rNs r none).2 = some l' := h2
      rw [this r] at h3
      cases h3
    | some l1 =>
      obtain ⟨q1, q2, q3, q4, q5⟩ := rN_some hf e
      obtain ⟨w1, w2, w3⟩ := ih (s := some l1) (l' := l') (fun l hl => by injection hl with hl; subst hl; exact q5) h2
      injection w1 with w1
      refine ⟨?_, w2, by rw [List.length_cons, w3, List.length_cons]⟩
      rw [q1]
      show some (be8 x ++ l1) = some (be8 x ++ beL (rNs r (some l1)).1 ++ l')
      rw [List.append_assoc, ← w1]
theorem rNs_be : ∀ (bs : List (Int × Int)) (xs r : List Int), xs.length = bs.length → (∀ x ∈ xs, I64 x) → (∀ i, i < bs.length → (bs.getD i (0, 0)).1 ≤ xs.getD i 0 ∧ xs.getD i 0 ≤ (bs.getD i (0, 0)).2) → rNs bs (some (beL xs ++ r)) = (xs, some r) := by
  intro bs
  induction bs with
  | nil => intro xs r hl _ _; obtain rfl := List.eq_nil_of_length_eq_zero hl; rfl
  | cons b t ih =>
    intro xs r hl hi hb
    cases xs with
    | nil => cases hl
    | cons x ys =>
      have e : rN (some (beL (x :: ys) ++ r)) b.1 b.2 = (x, some (beL ys ++ r)) := by
        show rN (some (be8 x ++ beL ys ++ r)) b.1 b.2 = _
        rw [List.append_assoc]
        exact rN_be (hi x (by simp)) _ (hb 0 (by simp)).1 (hb 0 (by simp)).2
      show ((rN (some (beL (x :: ys) ++ r)) b.1 b.2).1 :: (rNs t (rN (some (beL (x :: ys) ++ r)) b.1 b.2).2).1, (rNs t (rN (some (beL (x :: ys) ++ r)) b.1 b.2).2).2) = _
      rw [e]
      have q := ih ys r (by simpa using hl) (fun y hy => hi y (by simp [hy])) (fun i hi' => by
        have := hb (i + 1) (by simp; omega)
        simpa using this)
      show (x :: (rNs t (some (beL ys ++ r))).1, (rNs t (some (beL ys ++ r))).2) = _
      rw [q]
/-- a request of numbers, a name and two rows of bytes -/
def ofNs (ns : List Int) (name : ByteArray) (bytes token : List Int) : AskV := ⟨ns.getD 0 0, ns.getD 1 0, ns.getD 2 0, ns.getD 3 0, ns.getD 4 0, ns.getD 5 0, ns.getD 6 0, ns.getD 7 0, ns.getD 8 0, ns.getD 9 0, ns.getD 10 0, name, bytes, token⟩
theorem numsA_of {ns : List Int} (h : ns.length = 11) (name : ByteArray) (bytes token : List Int) : numsA (ofNs ns name bytes token) = ns := by
  match ns, h with
  | [a, b, c, d, e, f, g, i, j, k, l], _ => rfl
theorem of_numsA (a : AskV) : ofNs (numsA a) a.name a.bytes a.token = a := rfl
/-- a request that is read, and what is left then -/
noncomputable def takeA (bs : List (Int × Int)) (m0 m1 m2 : Int) (s : Option (List Int)) : AskV × Option (List Int) :=
  (ofNs (rNs bs s).1 (strOfNums (rB (rNs bs s).2 m0).1) (rB (rB (rNs bs s).2 m0).2 m1).1 (rB (rB (rB (rNs bs s).2 m0).2 m1).2 m2).1, (rB (rB (rB (rNs bs s).2 m0).2 m1).2 m2).2)
/-- what was read to its end is its body -/
theorem takeA_some {bs : List (Int × Int)} {m0 m1 m2 : Int} {b : List Int} (hl : bs.length = 11) (hf : Fit 8 b) (h : (takeA bs m0 m1 m2 (some b)).2 = some []) : b = laidA (takeA bs m0 m1 m2 (some b)).1 := by
  have h2 : (rB (rB (rB (rNs bs (some b)).2 m0).2 m1).2 m2).2 = some [] := h
  obtain ⟨ns, s1, e1⟩ : ∃ ns s1, rNs bs (some b) = (ns, s1) := ⟨_, _, rfl⟩
  obtain ⟨p0, s2, e2⟩ : ∃ p s2, rB s1 m0 = (p, s2) := ⟨_, _, rfl⟩
  obtain ⟨p1, s3, e3⟩ : ∃ p s3, rB s2 m1 = (p, s3) := ⟨_, _, rfl⟩
  obtain ⟨p2, s4, e4⟩ : ∃ p s4, rB s3 m2 = (p, s4) := ⟨_, _, rfl⟩
  rw [e1] at h2
  simp only at h2
  rw [e2] at h2
  simp only at h2
  rw [e3] at h2
  simp only at h2
  rw [e4] at h2
  simp only at h2
  subst h2
  have ea : (takeA bs m0 m1 m2 (some b)).1 = ofNs ns (strOfNums p0) p1 p2 := by
    unfold takeA
    rw [e1]
    simp only
    rw [e2]
    simp only
    rw [e3]
    simp only
    rw [e4]
  have bad : ∀ m : Int, rB none m = ([], none) := fun _ => rfl
  cases s3 with
  | none => rw [bad] at e4; cases e4
  | some l3 =>
    cases s2 with
    | none => rw [bad] at e3; cases e3
    | some l2 =>
      cases s1 with
      | none => rw [bad] at e2; cases e2
      | some l1 =>
        have q1 := rNs_some bs (s := some b) (l' := l1) (fun l hl => by injection hl with hl; subst hl; exact hf) (by rw [e1])
        rw [e1] at q1
        obtain ⟨q1, f1, n1⟩ := q1
        injection q1 with q1
        have q2 := rB_some (s := some l1) (fun l hl => by injection hl with hl; subst hl; exact f1) e2
        obtain ⟨q2, _, g0, f2⟩ := q2
        injection q2 with q2
        have q3 := rB_some (s := some l2) (fun l hl => by injection hl with hl; subst hl; exact f2) e3
        obtain ⟨q3, _, g1, f3⟩ := q3
        injection q3 with q3
        have q4 := rB_some (s := some l3) (fun l hl => by injection hl with hl; subst hl; exact f3) e4
        obtain ⟨q4, _, g2, _⟩ := q4
        injection q4 with q4
        rw [ea]
        unfold laidA
        rw [numsA_of (by rw [n1, hl])]
        have t0 : strNums (strOfNums p0) = p0 := strNums_of g0
        have t1 : (strOfNums p0).size = p0.length := by rw [← strNums_len, t0]
        show b = beL ns ++ (be8 (strOfNums p0).size ++ strNums (strOfNums p0)) ++ (be8 p1.length ++ p1 ++ (be8 p2.length ++ p2 ++ []))
        rw [t0, t1, q1]
        show beL ns ++ l1 = _
        rw [q2, q3, q4]
        simp only [List.append_assoc]
theorem takeA_laid {bs : List (Int × Int)} {m0 m1 m2 : Int} {a : AskV} (hl : bs.length = 11) (hb : ∀ i, i < 11 → (bs.getD i (0, 0)).1 ≤ (numsA a).getD i 0 ∧ (numsA a).getD i 0 ≤ (bs.getD i (0, 0)).2) (hi : ∀ x ∈ numsA a, I64 x)
    (n0 : a.name.size ≤ 4000) (n1 : a.bytes.length ≤ 4000) (n2 : a.token.length ≤ 4000) (k0 : (a.name.size : Int) ≤ m0) (k1 : (a.bytes.length : Int) ≤ m1) (k2 : (a.token.length : Int) ≤ m2) : takeA bs m0 m1 m2 (some (laidA a)) = (a, some []) := by
  have e : laidA a = beL (numsA a) ++ (be8 (strNums a.name).length ++ (strNums a.name ++ (be8 a.bytes.length ++ (a.bytes ++ (be8 a.token.length ++ (a.token ++ [])))))) := by
    unfold laidA
    rw [strNums_len]
    show beL (numsA a) ++ (be8 a.name.size ++ strNums a.name) ++ (be8 a.bytes.length ++ a.bytes ++ (be8 a.token.length ++ a.token ++ [])) = _
    simp only [List.append_assoc]
  unfold takeA
  rw [e, rNs_be bs (numsA a) _ (by rw [hl]; rfl) hi (fun i hi' => hb i (by omega))]
  simp only
  rw [rB_be (by rw [strNums_len]; omega) _ (by rw [strNums_len]; exact k0)]
  simp only
  rw [rB_be (by omega) _ k1]
  simp only
  rw [rB_be (by omega) _ k2]
  simp only
  rw [strOf_nums]
  rw [of_numsA]
end Go.Proofs.YtidpihpddkfhgaaDoor
