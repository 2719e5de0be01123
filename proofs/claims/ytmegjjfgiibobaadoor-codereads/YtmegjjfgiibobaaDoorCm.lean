/- The law CodeOrder, walked. -/
import Derived.Test.YtmegjjfgiibobaaDoorCl
namespace Go.Proofs.YtmegjjfgiibobaaDoor
open Go.RowKit Slices Go.Proofs.YtmegjjfgiibobaaDoor.Bit

/-- the last k of a number's bytes -/
def lastB (n : Int) : Nat → List Int
  | 0 => []
  | k + 1 => byteAt n k :: lastB n k
theorem be8_last (n : Int) : be8 n = lastB n 8 := rfl
def toU (l : List Int) : List UInt8 := l.map fun x => UInt8.ofNat x.toNat
theorem toU_cons (x : Int) (l : List Int) : toU (x :: l) = UInt8.ofNat x.toNat :: toU l := rfl
theorem u8_lt {x y : Int} (hx : 0 ≤ x ∧ x < 256) (hy : 0 ≤ y ∧ y < 256) : (decide (UInt8.ofNat x.toNat < UInt8.ofNat y.toNat)) = decide (x < y) := by
  rw [decide_eq_decide, UInt8.lt_iff_toNat_lt, UInt8.toNat_ofNat', UInt8.toNat_ofNat', Nat.mod_eq_of_lt (by omega), Nat.mod_eq_of_lt (by omega)]
  omega
theorem u8_eq {x y : Int} (hx : 0 ≤ x ∧ x < 256) (hy : 0 ≤ y ∧ y < 256) : (UInt8.ofNat x.toNat == UInt8.ofNat y.toNat) = decide (x = y) := by
  rw [Bool.eq_iff_iff, beq_iff_eq, decide_eq_true_iff]
  constructor
  · intro h
    have := congrArg UInt8.toNat h
    rw [UInt8.toNat_ofNat', UInt8.toNat_ofNat', Nat.mod_eq_of_lt (by omega), Nat.mod_eq_of_lt (by omega)] at this
    omega
  · intro h; rw [h]
theorem mod_split (u k : Nat) : u % 256 ^ (k + 1) = (u / 256 ^ k % 256) * 256 ^ k + u % 256 ^ k := by
  rw [Nat.pow_succ, Nat.mod_mul]
  rw [Nat.mul_comm (256 ^ k)]
  omega
/-- bytes stand in the order of the numbers that they are -/
theorem less_last (a b : Int) : ∀ k, Op.bytesLess (toU (lastB a k)) (toU (lastB b k)) = decide (u64 a % 256 ^ k < u64 b % 256 ^ k) := by
  intro k
  induction k with
  | zero => simp [lastB, toU, Op.bytesLess, Nat.mod_one]
  | succ k ih =>
    show Op.bytesLess (UInt8.ofNat (byteAt a k).toNat :: toU (lastB a k)) (UInt8.ofNat (byteAt b k).toNat :: toU (lastB b k)) = _
    rw [Op.bytesLess, ih, u8_lt (byteAt_bd a k) (byteAt_bd b k), u8_eq (byteAt_bd a k) (byteAt_bd b k), mod_split (u64 a), mod_split (u64 b)]
    unfold byteAt
    have ma := Nat.mod_lt (u64 a) (Nat.pow_pos (n := k) (show 0 < 256 by decide))
    have mb := Nat.mod_lt (u64 b) (Nat.pow_pos (n := k) (show 0 < 256 by decide))
    generalize u64 a / 256 ^ k % 256 = x
    generalize u64 b / 256 ^ k % 256 = y
    generalize u64 a % 256 ^ k = p at ma ⊢
    generalize u64 b % 256 ^ k = q at mb ⊢
    generalize 256 ^ k = P at ma mb ⊢
    rw [Bool.eq_iff_iff]
    simp only [Bool.or_eq_true, Bool.and_eq_true, decide_eq_true_iff]
    constructor
    · rintro (h | ⟨h1, h2⟩)
      · have h' : x < y := by omega
        have : (x + 1) * P ≤ y * P := Nat.mul_le_mul_right _ h'
        rw [Nat.add_mul] at this
        omega
      · have h' : x = y := by omega
        subst h'
        omega
    · intro h
      by_cases e : x = y
      · subst e
        exact .inr ⟨rfl, by omega⟩
      · refine .inl ?_
        rcases Nat.lt_or_ge x y with h' | h'
        · omega
        · exfalso
          have h2 : y < x := by omega
          have : (y + 1) * P ≤ x * P := Nat.mul_le_mul_right _ h2
          rw [Nat.add_mul] at this
          omega
theorem strOf_list (l : List Int) : (strOfNums l).toList = toU l := by
  rw [ByteArray.toList_eq]
  unfold strOfNums toU
  simp
theorem less_be (a b : Int) : Op.bytesLess (strOfNums (be8 a)).toList (strOfNums (be8 b)).toList = decide (u64 a < u64 b) := by
  rw [strOf_list, strOf_list, be8_last, be8_last, less_last]
  have e : (256 : Nat) ^ 8 = 18446744073709551616 := by decide
  rw [e, Nat.mod_eq_of_lt (u64_lt a), Nat.mod_eq_of_lt (u64_lt b)]
def I64 (n : Int) : Prop := -9223372036854775808 ≤ n ∧ n ≤ 9223372036854775807
theorem u64_neg {n : Int} (h : I64 n) (h0 : n < 0) : ((u64 n : Nat) : Int) = n + 18446744073709551616 := by
  rw [u64_cast]; unfold I64 at h; omega
theorem u64_pos {n : Int} (h : I64 n) (h0 : 0 ≤ n) : ((u64 n : Nat) : Int) = n := by
  rw [u64_cast]; unfold I64 at h; omega
/-- one below 0 is behind all of them -/
theorem order_apart {a b : Int} (ha : I64 a) (hb : I64 b) (h : ¬ (decide (a < 0) = decide (b < 0))) : decide (u64 a < u64 b) = decide (b < 0) := by
  rw [decide_eq_decide]
  by_cases h1 : a < 0
  · by_cases h2 : b < 0
    · simp [h1, h2] at h
    · have q1 := u64_neg ha h1
      have q2 := u64_pos hb (by omega)
      unfold I64 at ha hb
      omega
  · by_cases h2 : b < 0
    · have q1 := u64_pos ha (by omega)
      have q2 := u64_neg hb h2
      unfold I64 at ha hb
      omega
    · simp [h1, h2] at h
theorem order_same {a b : Int} (ha : I64 a) (hb : I64 b) (h : decide (a < 0) = decide (b < 0)) : decide (u64 a < u64 b) = decide (a < b) := by
  rw [decide_eq_decide]
  rw [decide_eq_decide] at h
  by_cases h1 : a < 0
  · have h2 := h.1 h1
    have q1 := u64_neg ha h1
    have q2 := u64_neg hb h2
    omega
  · have h2 : ¬ b < 0 := fun q => h1 (h.2 q)
    have q1 := u64_pos ha (by omega)
    have q2 := u64_pos hb (by omega)
    omega

/-- append onto what the call made, whatever is appended, behind a guard -/
theorem append_on {P : Program} (w : World) {ops : Array Oper} {rest : List Oper} {o : Oper} {a : Act} {Q : Exit → Act → World → Prop} (hw : Region.wanted o (yielded ops a.tmps) = true) (s x : Operand) (t : TypeId)
    (ho : o.op = .call { callee := .builtin .append, args := #[s, x], argTypes := #[t, t] })
    (base : Nat) (e : TypeId) (i : TypeInfo) (z : Value) (size bytes : Nat) (ht : P.underlying t = some (.slice e)) (hi : P.info? e = some i) (hz : i.zero = some z)
    (hsize : i.size = size) (hby : i.bytes = bytes) (hzs : z.cells.size = size) (hsz : 0 < size)
    (v : Value) (n : Nat) (xs : List Value) (hs : a.eval s = v) (hown : w.ownsRow base e size v n xs)
    (ao : Option Addr) (m c : Nat) (news : List Value) (hx : a.eval x = .slice ao m c) (hl : news.length = m * size) (hnone : ao = none → m = 0 ∧ c = 0) (hnews : ∀ ad, ao = some ad → ∀ j u, news[j]? = some u → w.cell? (ad.add j) = some u) (h1 : ∀ u ∈ news, u.oneCell' = true)
    (h63 : n + m ≤ maxLen) (hbytes : (n + m) * bytes ≤ 140737488355328) (hbase : base ≤ w.heap.size)
    (h : ∀ v' w', w'.ownsRow base e size v' (n + m) (xs ++ news) → w.grownBy w' v.ownBlock → wpList P ops Q rest (a.put o.dst v') w') : wpList P ops Q (o :: rest) a w := by
  refine wpList_step fun K hK => ?_
  rw [if_pos hw]
  cases ao with
  | some ad => exact wp_append_own w s x t ho base e i z size bytes ht hi hz hsize hby hzs hsz v n xs hs hown ad m c news hx hl (hnews ad rfl) h1 h63 hbytes hbase fun v' w' a b _ => hK _ _ (h v' w' a b)
  | none =>
    obtain ⟨rfl, rfl⟩ := hnone rfl
    have hn : news = [] := List.eq_nil_of_length_eq_zero (by simpa using hl)
    subst hn
    have hrun := run_append_owned_none (P := P) (w := w) base t o.type e i size ht hi v n xs hown
    unfold Oper.wp
    simp [execOp, ho, resolve, invoke, builtin, hs, hx, hrun, Result.andThen]
    exact hK _ _ (h v w (by simpa using hown) (World.grownBy.refl _ _))

theorem nums_has (w : World) (l : List Int) : Has .i64 (w.alloc (.cells (ints .i64 l).toArray 3)) (w.alloc (.cells (ints .i64 l).toArray 3)).heap.size (some ⟨w.heap.size, 0, none⟩) l := fun k hk => by
  refine ⟨_, rfl, by simp, ?_⟩
  have e : (⟨w.heap.size, 0, none⟩ : Addr).add k = ⟨w.heap.size, k, none⟩ := by unfold Addr.add; split <;> simp_all
  rw [e, cell_of_row _ _ k _ _ _ (heap_alloc_new w (.cells (ints .i64 l).toArray 3))]
  simp only [List.getElem?_toArray]
  exact ints_at hk
theorem two_be (a b : Int) : [] ++ beL [a, b] = be8 a ++ be8 b := by
  show be8 a ++ (be8 b ++ []) = _
  rw [List.append_nil]
theorem two_len (a b : Int) : (be8 a ++ be8 b).length = 16 := by rw [List.length_append, be8_len, be8_len]
set_option maxRecDepth 100000 in
set_option maxHeartbeats 4000000 in
theorem codeOrder_any {pr : Nat → Nat → Nat → List Int → Bool → World → Prop} (P : CodeOk pr) (a b : Int) (w : World) (ha : I64 a) (hb : I64 b) (hg : Han w) :
    Calls Tryd.prog 6 #[.int .i64 a, .int .i64 b] w fun e w' => e = .returned (.bool true) ∧ Below w.heap.size w w' := by
  obtain ⟨i0, hi0, hz0, hz1, hz2⟩ := info_parts Tryd.info5
  have HG := Lib.hid hg
  have IA := Lib.hid ha
  have IB := Lib.hid hb
  clear hg ha hb
  have HL := Lib.hid (less_be a b)
  have B0 : Hid (Below w.heap.size w (w.alloc (.cells #[.int .i64 a] 3))) := (Below.refl _ _).alloc (Nat.le_refl _) _
  go_enter Tryd.func6, Tryd.ntmps6
  go_wp2_with fail
  refine (P.number none (some ⟨w.heap.size, 0, none⟩) 0 0 1 1 [] [a] (w.alloc (.cells #[.int .i64 a] 3)) (base_nil _) rfl (one_has w a) (fun h => by cases h) (by omega) (by omega)).mono ?_
  rintro e w1 ⟨A1, c1, rfl, ho, hb⟩
  rw [List.nil_append, beL_one] at ho ⊢
  rw [be8_len] at ho ⊢
  have B1 := Lib.hid (below_next B0.out hb)
  have O1 := Lib.hid ho
  clear ho hb B0
  go_wp2_with fail
  refine (P.number none (some ⟨w1.heap.size, 0, none⟩) 0 0 1 1 [] [b] (w1.alloc (.cells #[.int .i64 b] 3)) (base_nil _) rfl (one_has w1 b) (fun h => by cases h) (by omega) (by omega)).mono ?_
  rintro e w2 ⟨A2, c2, rfl, ho, hb⟩
  rw [List.nil_append, beL_one] at ho ⊢
  rw [be8_len] at ho ⊢
  have N2 : Hid (Below w1.heap.size w1 w2) := below_next ((Below.refl _ w1).alloc (Nat.le_refl _) _) hb
  have B2 := Lib.hid (below_next B1.out N2.out)
  have X2 := Lib.hid (own_next O1.out N2.out)
  have Y2 := Lib.hid ho
  clear ho hb B1 O1 N2
  go_wp2_with fail
  refine (P.number none (some ⟨w2.heap.size, 0, none⟩) 0 0 2 2 [] [a, b] (w2.alloc (.cells #[.int .i64 a, .int .i64 b] 3)) (base_nil _) rfl (nums_has w2 [a, b]) (fun h => by cases h) (by omega) (by omega)).mono ?_
  rintro e w3 ⟨A3, c3, rfl, ho, hb⟩
  rw [two_be] at ho ⊢
  rw [two_len] at ho ⊢
  have N3 : Hid (Below w2.heap.size w2 w3) := below_next ((Below.refl _ w2).alloc (Nat.le_refl _) _) hb
  have B3 := Lib.hid (below_next B2.out N3.out)
  have X3 := Lib.hid (own_next X2.out N3.out)
  have Y3 := Lib.hid (own_next Y2.out N3.out)
  have Z3 := Lib.hid ho
  have HX3 := Lib.hid (own_readn (be8_len a).symm X3.out)
  have HY3 := Lib.hid (own_readn (be8_len b).symm Y3.out)
  clear ho hb B2 X2 Y2 N3
  go_wp2_with (at_builtin; first
    | (refine append_on w3 (by rfl) (.const (.slice none 0 0)) _ 22 rfl w3.heap.size 5 i0 (.int .u8 0) 1 1 Tryd.underlying22 hi0 hz0 hz1 hz2 rfl (by decide) _ 0 [] rfl (World.ownsRow_nil _ _ _ _) A1 8 c1 (ints .u8 (be8 a)) rfl (by rw [ints_length, be8_len]) (own_none X3.out) HX3.out.cells (ints_one _ _) (by unfold maxLen; omega) (by omega) (Nat.le_refl _) ?_; intro v4 w4 hown hgr; have O4 := Lib.hid hown; have N4 : Hid (Below w3.heap.size w3 w4) := (Below.refl _ w3).grown hgr (Nat.le_refl _) (fun q hq => by cases hq); clear hown hgr)
    | (refine append_on w4 (by rfl) (.tmp 27) _ 22 rfl w3.heap.size 5 i0 (.int .u8 0) 1 1 Tryd.underlying22 hi0 hz0 hz1 hz2 rfl (by decide) _ 8 _ rfl O4.out A2 8 c2 (ints .u8 (be8 b)) rfl (by rw [ints_length, be8_len]) (own_none Y3.out) (HY3.out.below N4.out).cells (ints_one _ _) (by unfold maxLen; omega) (by omega) N4.out.size ?_; intro v5 w5 hown hgr; have O5 := Lib.hid hown; have N5 : Hid (Below w3.heap.size w3 w5) := N4.out.grown hgr N4.out.size (fun q hq => (O4.out.lt q hq).1); obtain ⟨A5, c5, rfl⟩ := own_slice hown; clear hown hgr))
  have R5 : Hid (w5.ownsRow w3.heap.size 5 1 (.slice A5 16 c5) 16 (ints .u8 (be8 a ++ be8 b))) := by have q := O5.out; rw [List.nil_append, ← ints_app] at q; exact q
  refine (sameB_eq A3 A5 c3 c5 16 16 _ _ w5 rfl (two_len a b).symm (two_len a b).symm (by rw [two_len]; omega) (own_readn (two_len a b).symm (own_next Z3.out N5.out)) (own_readn (two_len a b).symm R5.out)).mono ?_
  rintro e w6 ⟨rfl, hb⟩
  have N6 := Lib.hid (below_next N5.out hb)
  have B6 := Lib.hid (below_next B3.out N6.out)
  have X6 := Lib.hid (own_readn (be8_len a).symm (own_next X3.out N6.out))
  have Y6 := Lib.hid (own_readn (be8_len b).symm (own_next Y3.out N6.out))
  have C1 := conv_has (n := 8) (c := c1) X6.out (be8_len a)
  have C2 := conv_has (n := 8) (c := c2) Y6.out (be8_len b)
  clear hb B3 X3 Y3 Z3 HX3 HY3 O4 O5 N4 N5 R5 N6
  by_cases h : decide (a < 0) = decide (b < 0)
  · have t1 : (!(decide (a < 0) == decide (b < 0))) = false := by rw [h]; simp
    have t2 : (Op.bytesLess (strOfNums (be8 a)).toList (strOfNums (be8 b)).toList == decide (a < b)) = true := by rw [HL.out, order_same IA.out IB.out h]; simp
    clear h HL
    go_wp2_with (go_at_call 8; refine (awake_any P w6 (HG.out.below B6.out)).mono ?_; rintro e w7 ⟨rfl, hb⟩; have B7 := Lib.hid (below_next B6.out hb); clear hb)
    go_ret
    exact ⟨rfl, B7.out⟩
  · have t1 : (!(decide (a < 0) == decide (b < 0))) = true := by rw [beq_eq_false_iff_ne.2 h]; rfl
    have t2 : (Op.bytesLess (strOfNums (be8 a)).toList (strOfNums (be8 b)).toList == decide (b < 0)) = true := by rw [HL.out, order_apart IA.out IB.out h]; simp
    clear h HL
    go_wp2_with (go_at_call 8; refine (awake_any P w6 (HG.out.below B6.out)).mono ?_; rintro e w7 ⟨rfl, hb⟩; have B7 := Lib.hid (below_next B6.out hb); clear hb)
    go_ret
    exact ⟨rfl, B7.out⟩
end Go.Proofs.YtmegjjfgiibobaaDoor
