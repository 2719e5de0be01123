/- What is asked of the program's own functions on keys (each is proved where the landed code is walked). Contracts: a seed; the statements' own remainder; awake: what every program answers that is one. -/
import Derived.Test.YtealebeacddbbaaDoorKb
import Derived.Test.YtealebeacddbbaaDoorEe
namespace Go.Proofs.YtealebeacddbbaaDoor
open Go.RowKit Slices

def I64 (n : Int) : Prop := -9223372036854775808 ≤ n ∧ n ≤ 9223372036854775807
theorem ret_bool {a b : Bool} (h : a = b) : Ending.returned (.bool a) = .returned (.bool b) := by rw [h]
theorem ret_int {k : IntKind} {a b : Int} (h : a = b) : Ending.returned (.int k a) = .returned (.int k b) := by rw [h]
theorem own_readn {κ : IntKind} {t : TypeId} {w : World} {B c n : Nat} {A : Option Addr} {l : List Int} (hn : n = l.length) (h : w.ownsRow B t 1 (.slice A n c) n (ints κ l)) : Has κ w w.heap.size A l := by
  subst hn
  exact own_read h
/-- what the number of an error is, from now on -/
def NumIs (c : Int) (v : Value) (w : World) : Prop := ∀ W, Below w.heap.size w W → Han W → Calls Tryd.prog 10 #[v] W fun e w' => e = .returned (.int .i64 c) ∧ Below W.heap.size W w'
theorem NumIs.next {c : Int} {v : Value} {w w' : World} (h : NumIs c v w) (hb : Below w.heap.size w w') : NumIs c v w' := fun W hW hg => h W (below_next hb hW) hg
/-- a key's numbers are numbers of 64 bits -/
structure WideK (K : KeyV) : Prop where
  id : I64 K.id
  ten : I64 K.ten
  set : I64 K.set
  each : ∀ k, k < K.vs.length → I64 (vg K.vs k).n ∧ I64 (vg K.vs k).st ∧ I64 (vg K.vs k).due
noncomputable def mayKC (K : KeyV) : Bool := @decide (MayK K) (Classical.propDecidable _)
theorem mayKC_yes {K : KeyV} (m : MayK K) : mayKC K = true := @decide_eq_true _ (Classical.propDecidable _) m
theorem mayKC_no {K : KeyV} (m : ¬ MayK K) : mayKC K = false := @decide_eq_false _ (Classical.propDecidable _) m
theorem may_wide {K : KeyV} (m : MayK K) : WideK K := by
  have h1 := m.id1
  have h2 := m.id6
  have h3 := m.ten1
  have h4 := m.ten8
  have h5 := m.set1
  have h6 := m.set3
  have h7 := m.few
  refine ⟨by unfold I64; omega, by unfold I64; omega, by unfold I64; omega, fun k hk => ?_⟩
  have q := m.each k hk
  have q1 := q.n
  have q2 := q.st1
  have q3 := q.st4
  refine ⟨by unfold I64; omega, by unfold I64; omega, ?_⟩
  by_cases e : (vg K.vs k).st = 3
  · have := q.doom e; unfold I64; omega
  · have := q.rest e; unfold I64; omega
/-- a key is told, with no error -/
def KeyTold (K : KeyV) (w : World) (e : Ending) (w' : World) : Prop := ∃ A c, e = .returned (.tuple #[keyVal K A c, .nilIface]) ∧ RdK w' A c K ∧ Below w.heap.size w w'
/-- a version is told -/
def VerTold (v : Ver) (w : World) (e : Ending) (w' : World) : Prop := ∃ S m c, e = .returned (.tuple #[.agg #[.int .i64 v.n, .int .i64 v.st, .int .i64 v.due, .slice S m c], .bool true]) ∧ Below w.heap.size w w'
/-- what is asked of the program's functions: each is a contract -/
structure KeysOk : Prop where
  may : ∀ (K : KeyV) (A : Option Addr) (c : Nat) (w : World), RdK w A c K → FewK K → WideK K →
    Calls Tryd.prog 5 #[keyVal K A c] w fun e w' => e = .returned (.bool (mayKC K)) ∧ Below w.heap.size w w'
  new_yes : ∀ (id ten set : Int) (S : Option Addr) (c : Nat) (l : List Int) (w : World), MayK ⟨id, ten, set, [⟨1, 1, 0, l⟩]⟩ → Has .u8 w w.heap.size S l → (S = none → l.length = 0 ∧ c = 0) → l.length ≤ c →
    Calls Tryd.prog 14 #[.int .i64 id, .int .i64 ten, .int .i64 set, .slice S l.length c] w (KeyTold ⟨id, ten, set, [⟨1, 1, 0, l⟩]⟩ w)
  set_yes : ∀ (K : KeyV) (op n till clock : Int) (A : Option Addr) (c : Nat) (w : World), RdK w A c K → SetT K op n till clock 0 (putK K (n - 1).toNat (toS op) (dueS op till)) → I64 till → I64 clock →
    Calls Tryd.prog 9 #[keyVal K A c, .int .i64 op, .int .i64 n, .int .i64 till, .int .i64 clock] w (KeyTold (putK K (n - 1).toNat (toS op) (dueS op till)) w)
  set_state : ∀ (K : KeyV) (op n till clock : Int) (A : Option Addr) (c : Nat) (w : World), RdK w A c K → SetT K op n till clock 11 key0 → I64 till → I64 clock →
    Calls Tryd.prog 9 #[keyVal K A c, .int .i64 op, .int .i64 n, .int .i64 till, .int .i64 clock] w fun e w' => ∃ A' c' v, e = .returned (.tuple #[keyVal key0 A' c', v]) ∧ RdK w' A' c' key0 ∧ NumIs 11 v w' ∧ Below w.heap.size w w'
  find_yes : ∀ (K : KeyV) (n : Int) (A : Option Addr) (c : Nat) (w : World), RdK w A c K → MayK K → 1 ≤ n → n ≤ (K.vs.length : Int) →
    Calls Tryd.prog 8 #[keyVal K A c, .int .i64 n] w (VerTold (vg K.vs (n - 1).toNat) w)
  current_yes : ∀ (K : KeyV) (i : Nat) (A : Option Addr) (c : Nat) (w : World), RdK w A c K → MayK K → i < K.vs.length → (vg K.vs i).st = 1 → (∀ j, i < j → j < K.vs.length → (vg K.vs j).st ≠ 1) →
    Calls Tryd.prog 16 #[keyVal K A c] w (VerTold (vg K.vs i) w)

/-- the statements' own remainder -/
def low (x n : Int) : Int := x % 18446744073709551616 % n
theorem low_lo (x : Int) {n : Int} (h : 1 ≤ n) : 0 ≤ low x n := Int.emod_nonneg _ (by omega)
theorem low_hi (x : Int) {n : Int} (h : 1 ≤ n) : low x n < n := Int.emod_lt_of_pos _ (by omega)
theorem wrap_low (x n : Int) (h0 : 1 ≤ n) (h1 : n ≤ 4611686018427387904) : wrap64 ((IntKind.u64.wrap x).tmod n) = low x n := by
  have e : IntKind.u64.wrap x = x % 18446744073709551616 := by simp [IntKind.wrap, IntKind.bits, IntKind.signed]
  rw [e, Int.tmod_eq_emod_of_nonneg (by omega)]
  have l0 := low_lo x h0
  have l1 := low_hi x h0
  exact IntWalk.wrap64_in _ (by show -9223372036854775808 ≤ low x n ∧ low x n ≤ 9223372036854775807; omega)
set_option maxHeartbeats 400000 in
theorem lawLow_any (x n : Int) (w : World) (h0 : 1 ≤ n) (h1 : n ≤ 4611686018427387904) :
    Calls Tryd.prog 7 #[.int .i64 x, .int .i64 n] w fun e w' => e = .returned (.int .i64 (low x n)) ∧ w = w' := by
  go_enter Tryd.func7, Tryd.ntmps7
  go_wp2
  go_ret
  exact ⟨ret_int (wrap_low x n h0 h1), rfl⟩

theorem Tryd.info5 : (Tryd.prog.info? 5).map (fun i => (i.zero, i.size, i.bytes)) = some (some (.int .u8 0), 1, 1) := by kernel_rfl
set_option maxRecDepth 100000 in
set_option maxHeartbeats 1000000 in
theorem seed_any (a : Int) (w : World) : Calls Tryd.prog 15 #[.int .i64 a] w fun e w' => ∃ (A : Addr) (l : List Int), e = .returned (.slice (some A) 64 64) ∧ l.length = 64 ∧ Has .u8 w' w'.heap.size (some A) l ∧ Below w.heap.size w w' := by
  obtain ⟨i0, hi0, hz0, hz1, hz2⟩ := info_parts Tryd.info5
  go_enter Tryd.func15, Tryd.ntmps15
  go_wp2_with (at_make; refine wpList_make_full _ rfl _ _ 28 rfl w.heap.size 5 i0 (.int .u8 0) 1 Tryd.underlying28 hi0 hz0 hz1 _ _ _ _ 64 rfl rfl (by decide) (by decide) (by rw [hz2]; omega) (by unfold maxLen; omega) (Nat.le_refl _) ?_; intro w1 hown hgrow; rw [made_ints] at hown; have HO := Lib.hid hown; have HB : Hid (Below w.heap.size w w1) := (Below.refl _ _).grown hgrow (Nat.le_refl _) (by simp); clear hown hgrow)
  go_loopw [4] (fun i wr => ∃ k : Nat, k ≤ 64 ∧ i = .int .i64 k ∧ ∃ l : List Int, l.length = 64 ∧ wr.ownsRow w.heap.size 5 1 (.slice (some ⟨w.heap.size, 0, none⟩) 64 64) 64 (ints .u8 l) ∧ Below w.heap.size w wr) (fun i _ => 64 - (intOf i).toNat)
  case atStart => exact ⟨0, by omega, rfl, List.replicate 64 0, by simp, HO.out, HB.out⟩
  case round =>
    obtain ⟨k, hk, rfl, l, hl, ho, hb⟩ := hrel
    have HL := Lib.hid hl
    have H1 := Lib.hid ho
    have H2 := Lib.hid hb
    clear hl ho hb HO
    by_cases hlt : k < 64
    · have hfz := H1.out.frozenAt k
      have hc := own_cell H1.out (k := k) (by first | exact hlt | (rw [HL.out]; exact hlt))
      have hw : IntKind.i64.wrap (3 * (k : Int)) = 3 * (k : Int) := IntWalk.i64_in _ (by omega)
      generalize l.getD k 0 = y at hc
      go_wp2
      go_roundw
      case rel => exact ⟨k + 1, by omega, by go_num, _, by rw [List.length_set]; exact HL.out, own_set H1.out k _, H2.out.setCell (Nat.le_refl _) _⟩
      case measure => simp [intOf]; omega
    · obtain rfl : k = 64 := by omega
      go_wp2
      go_ret
      exact ⟨_, l, rfl, HL.out, own_readn HL.out.symm H1.out, H2.out⟩
end Go.Proofs.YtealebeacddbbaaDoor
