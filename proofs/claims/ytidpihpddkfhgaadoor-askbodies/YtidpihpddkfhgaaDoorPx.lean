/- Several texts in one: Pa, Pb, Pc, Pd. -/
import Derived.Test.YtidpihpddkfhgaaDoorAc
import Derived.StillTailTactics
import Derived.Test.YtidpihpddkfhgaaDoorAh
/- Contracts: the landed code's list of a request's numbers, with their bounds. -/
namespace Go.Proofs.YtidpihpddkfhgaaDoor
open Go.RowKit Slices Go.Proofs.YtidpihpddkfhgaaDoor.Bit

/-- from where to where each number may be -/
def bndA : List (Int × Int) := [(1, 6), (1, 1099511627776), (1, 13), (0, 1099511627776), (0, 1099511627776), (0, 1099511627776), (0, 1099511627776), (0, 1099511627776), (0, 1099511627776), (0, 1099511627776), (0, 1099511627776)]
def loA (k : Nat) : Int := (bndA.getD k (0, 0)).1
def hiA (k : Nat) : Int := (bndA.getD k (0, 0)).2
/-- the rows of a list of numbers: where each stands (in block g), its bounds -/
def numRows (g : Nat) : Array Value := #[.pointer (some ⟨g, 0, none⟩), .int .i64 1, .int .i64 6, .pointer (some ⟨g, 1, none⟩), .int .i64 1, .int .i64 1099511627776, .pointer (some ⟨g, 2, none⟩), .int .i64 1, .int .i64 13,
  .pointer (some ⟨g, 3, none⟩), .int .i64 0, .int .i64 1099511627776, .pointer (some ⟨g, 4, none⟩), .int .i64 0, .int .i64 1099511627776, .pointer (some ⟨g, 5, none⟩), .int .i64 0, .int .i64 1099511627776, .pointer (some ⟨g, 6, none⟩), .int .i64 0, .int .i64 1099511627776,
  .pointer (some ⟨g, 7, none⟩), .int .i64 0, .int .i64 1099511627776, .pointer (some ⟨g, 8, none⟩), .int .i64 0, .int .i64 1099511627776, .pointer (some ⟨g, 9, none⟩), .int .i64 0, .int .i64 1099511627776, .pointer (some ⟨g, 10, none⟩), .int .i64 0, .int .i64 1099511627776]
theorem numRows_at (g k : Nat) (hk : k < 11) : (numRows g)[k * 3]? = some (.pointer (some ⟨g, k, none⟩)) ∧ (numRows g)[k * 3 + 1]? = some (.int .i64 (loA k)) ∧ (numRows g)[k * 3 + 2]? = some (.int .i64 (hiA k)) := by
  match k, hk with
  | 0, _ => exact ⟨rfl, rfl, rfl⟩
  | 1, _ => exact ⟨rfl, rfl, rfl⟩
  | 2, _ => exact ⟨rfl, rfl, rfl⟩
  | 3, _ => exact ⟨rfl, rfl, rfl⟩
  | 4, _ => exact ⟨rfl, rfl, rfl⟩
  | 5, _ => exact ⟨rfl, rfl, rfl⟩
  | 6, _ => exact ⟨rfl, rfl, rfl⟩
  | 7, _ => exact ⟨rfl, rfl, rfl⟩
  | 8, _ => exact ⟨rfl, rfl, rfl⟩
  | 9, _ => exact ⟨rfl, rfl, rfl⟩
  | 10, _ => exact ⟨rfl, rfl, rfl⟩
/-- at A stands the list of the numbers in block g -/
structure NumT (w : World) (A : Addr) (g : Nat) : Prop where
  lt : A.block < w.heap.size
  c0 : ∀ k, k < 11 → w.cell? (A.add (k * 3)) = some (.pointer (some ⟨g, k, none⟩))
  c1 : ∀ k, k < 11 → w.cell? ⟨(A.add (k * 3)).block, (A.add (k * 3)).off + 1, none⟩ = some (.int .i64 (loA k))
  c2 : ∀ k, k < 11 → w.cell? ⟨(A.add (k * 3)).block, (A.add (k * 3)).off + 2, none⟩ = some (.int .i64 (hiA k))
theorem NumT.next {w w' : World} {A : Addr} {g : Nat} (h : NumT w A g) (hb : Below w.heap.size w w') : NumT w' A g :=
  ⟨Nat.lt_of_lt_of_le h.lt hb.size, fun k hk => cellB (h.c0 k hk) hb, fun k hk => cellB (h.c1 k hk) hb, fun k hk => cellB (h.c2 k hk) hb⟩
theorem numT_of {w : World} {n g : Nat} (h : w.heap[n]? = some (.cells (numRows g) 62 (0, 0))) : NumT w ⟨n, 0, none⟩ g := by
  have hlt : n < w.heap.size := (Array.getElem?_eq_some_iff.1 h).1
  have ea : ∀ j, (⟨n, 0, none⟩ : Addr).add j = ⟨n, j, none⟩ := fun j => by unfold Addr.add; split <;> simp_all
  refine ⟨hlt, fun k hk => ?_, fun k hk => ?_, fun k hk => ?_⟩
  · rw [ea, cell_of_row _ _ (k * 3) _ _ _ h]; exact (numRows_at g k hk).1
  · rw [ea]
    show w.cell? ⟨n, k * 3 + 1, none⟩ = _
    rw [cell_of_row _ _ (k * 3 + 1) _ _ _ h]; exact (numRows_at g k hk).2.1
  · rw [ea]
    show w.cell? ⟨n, k * 3 + 2, none⟩ = _
    rw [cell_of_row _ _ (k * 3 + 2) _ _ _ h]; exact (numRows_at g k hk).2.2

set_option maxRecDepth 100000 in
set_option maxHeartbeats 4000000 in
theorem numbersOf_any (g : Nat) (w : World) :
    Calls Tryd.prog 30 #[.pointer (some ⟨g, 0, none⟩)] w fun e w' => ∃ A : Addr, e = .returned (.slice (some A) 11 11) ∧ NumT w' A g ∧ w.heap.size ≤ A.block ∧ Below w.heap.size w w' := by
  go_enter Tryd.func30, Tryd.ntmps30
  go_wp2
  refine wp_region_still_tail 44 (by kernel_rfl) (by kernel_rfl) ?_
  simp only [List.take_succ_cons, List.take_zero, List.drop_succ_cons, List.drop_zero]
  change wpStill _ _ (World.drew _) (fun a' => wpList _ _ _ _ a' (World.drew _)) _ _
  generalize hW : World.drew w = w2
  repeat still_step
  refine wpStill_nil ?_
  go_wp2
  go_ret
  subst hW
  exact ⟨_, rfl, numT_of (heap_alloc_new w.drew _), Nat.le_refl _, (Below.refl _ _).drew.alloc (Nat.le_refl _) _⟩
end Go.Proofs.YtidpihpddkfhgaaDoor

/- Contract: the landed code's row of a request's numbers. -/
namespace Go.Proofs.YtidpihpddkfhgaaDoor
open Go.RowKit Slices Go.Proofs.YtidpihpddkfhgaaDoor.Bit

theorem askVals_num (a : AskV) (A1 A2 : Option Addr) (c1 c2 k : Nat) (hk : k < 11) : (askVals a A1 c1 A2 c2)[k]? = some (.int .i64 ((numsA a).getD k 0)) := by
  match k, hk with
  | 0, _ => rfl
  | 1, _ => rfl
  | 2, _ => rfl
  | 3, _ => rfl
  | 4, _ => rfl
  | 5, _ => rfl
  | 6, _ => rfl
  | 7, _ => rfl
  | 8, _ => rfl
  | 9, _ => rfl
  | 10, _ => rfl
/-- a request's row in block g -/
def ReqAt (w : World) (g : Nat) (V : Array Value) : Prop := w.heap[g]? = some (.cells V 24 (0, 0))
theorem ReqAt.next {w w' : World} {g : Nat} {V : Array Value} (h : ReqAt w g V) (hb : Below w.heap.size w w') : ReqAt w' g V := row_below h hb
theorem ReqAt.num {w : World} {g : Nat} {a : AskV} {A1 A2 : Option Addr} {c1 c2 k : Nat} (h : ReqAt w g (askVals a A1 c1 A2 c2)) (hk : k < 11) : w.cell? ⟨g, k, none⟩ = some (.int .i64 ((numsA a).getD k 0)) := by
  rw [cell_of_row _ _ k _ _ _ h]
  exact askVals_num a A1 A2 c1 c2 k hk
/-- the first k numbers are laid -/
def ValRow (w : World) (ns : List Int) (k : Nat) (v : Value) (wr : World) : Prop := wr.ownsRow w.heap.size 3 1 v k (ints .i64 (ns.take k)) ∧ Below w.heap.size w wr

set_option maxRecDepth 100000 in
set_option maxHeartbeats 1000000 in
theorem valuesOf_any (a : AskV) (A1 A2 : Option Addr) (c1 c2 : Nat) (w : World) :
    Calls Tryd.prog 33 #[.agg (askVals a A1 c1 A2 c2)] w fun e w' => ∃ A c, e = .returned (.slice A 11 c) ∧ w'.ownsRow w.heap.size 3 1 (.slice A 11 c) 11 (ints .i64 (numsA a)) ∧ Below w.heap.size w w' := by
  obtain ⟨i0, hi0, hz0, hz1, hz2⟩ := info_parts Tryd.info3
  have HR0 : Hid (ReqAt (w.alloc (.cells (askVals a A1 c1 A2 c2) 24)) w.heap.size (askVals a A1 c1 A2 c2)) := heap_alloc_new w _
  obtain ⟨V, hV⟩ : ∃ V, V = askVals a A1 c1 A2 c2 := ⟨_, rfl⟩
  have HV : Hid (V = askVals a A1 c1 A2 c2) := hV
  rw [← hV] at HR0
  rw [← hV]
  clear hV
  go_enter Tryd.func33, Tryd.ntmps33
  go_wp2_with fail
  refine (numbersOf_any w.heap.size _).mono ?_
  rintro e w1 ⟨A, rfl, hn, hA, hb⟩
  have HN := Lib.hid hn
  have HR := Lib.hid (HR0.out.next hb)
  have HB := Lib.hid (below_next (below_new w _) hb)
  clear hn hb hA HR0
  obtain ⟨g, hg⟩ : ∃ g, g = w.heap.size := ⟨_, rfl⟩
  rw [← hg] at HN HR
  clear hg
  have HS : Hid (ValRow w1 (numsA a) 0 (.slice none 0 0) w1) := ⟨World.ownsRow_nil _ _ _ _, Below.refl _ _⟩
  go_wp2
  go_loopw [3, 8] (fun v i wr => ∃ k : Nat, k ≤ 11 ∧ i = .int .i64 k ∧ ValRow w1 (numsA a) k v wr) (fun _ i _ => 11 - (intOf i).toNat)
  case atStart => exact ⟨0, by omega, rfl, HS.out⟩
  case round =>
    obtain ⟨k, hk, rfl, hrow⟩ := hrel
    have HM := Lib.hid hrow
    clear hrow HS
    by_cases hlt : k < 11
    · have hr := HR.out.next HM.out.2
      rw [HV.out] at hr
      have hx := hr.num hlt
      have hn := HN.out.next HM.out.2
      have k0 := hn.c0 k hlt
      have k1 := hn.c1 k hlt
      have k2 := hn.c2 k hlt
      clear hr hn
      obtain ⟨x, hX⟩ : ∃ x, x = (numsA a).getD k 0 := ⟨_, rfl⟩
      rw [← hX] at hx
      have HX := Lib.hid hX
      generalize loA k = lo at k1
      generalize hiA k = hi at k2
      have hx2 : (wr.alloc (.cells #[.pointer (some ⟨g, k, none⟩), .int .i64 lo, .int .i64 hi] 62)).cell? ⟨g, k, none⟩ = some (.int .i64 x) := cellB hx (below_new wr _)
      clear hX hx
      go_wp2_with (at_builtin; refine append_any _ rfl (.tmp 12) (.tmp 17) 63 rfl w1.heap.size 3 i0 (.int .i64 0) 1 8 Tryd.underlying63 hi0 hz0 hz1 hz2 rfl (by decide) u3 k _ rfl ((HM.out.1.alloc _).alloc _) (some ⟨wr.heap.size + 1, 0, none⟩) 1 1 [.int .i64 x] rfl rfl (fun h => by cases h) (fun ad e => by injection e with e; subst e; exact World.news_of_block (cs := #[.int .i64 x]) (t := 3) (fr := (0, 0)) (by have q := heap_alloc_new (wr.alloc (.cells #[.pointer (some ⟨g, k, none⟩), .int .i64 lo, .int .i64 hi] 62)) (.cells #[.int .i64 x] 3); simpa using q)) (by simp [Value.oneCell']) (by unfold maxLen; omega) (by omega) (by have := HM.out.2.size; simp; omega) ?_; intro v4 w4 hown4 hgrow4; have O4 := Lib.hid hown4; have G4 := Lib.hid hgrow4; clear hown4 hgrow4)
      have HNX : Hid (ValRow w1 (numsA a) (k + 1) v4 w4) := by
        have hs := HM.out.2.size
        refine ⟨?_, ((HM.out.2.alloc hs _).alloc (by simp; omega) _).grown G4.out (by simp; omega) (fun q hq => ?_)⟩
        · have q := O4.out
          have e2 : (numsA a).take (k + 1) = (numsA a).take k ++ [x] := by
            have hk2 : k < (numsA a).length := hlt
            rw [List.take_succ_eq_append_getElem hk2, HX.out, List.getD_eq_getElem?_getD, List.getElem?_eq_getElem hk2]; rfl
          rw [ints_snoc, ← e2] at q
          exact q
        · exact (HM.out.1.lt q hq).1
      clear O4 G4
      go_roundw
      case rel => exact ⟨k + 1, by omega, by go_num, HNX.out⟩
      case measure => simp [intOf]; omega
    · have e : k = 11 := by omega
      subst e
      go_wp2
      go_ret
      have q := HM.out.1
      rw [List.take_of_length_le (show (numsA a).length ≤ 11 from Nat.le_refl _)] at q
      obtain ⟨A2, c2, rfl⟩ := own_slice q
      exact ⟨A2, c2, rfl, own_down q HB.out.size, below_next HB.out HM.out.2⟩
end Go.Proofs.YtidpihpddkfhgaaDoor

/- Contract: the landed code's May. -/
namespace Go.Proofs.YtidpihpddkfhgaaDoor
open Go.RowKit Slices Go.Proofs.YtidpihpddkfhgaaDoor.Bit

/-- the first k numbers are within their bounds -/
def InA (ns : List Int) (k : Nat) : Prop := ∀ j, j < k → loA j ≤ ns.getD j 0 ∧ ns.getD j 0 ≤ hiA j
theorem inA_next {ns : List Int} {k : Nat} (h : InA ns k) (h1 : loA k ≤ ns.getD k 0) (h2 : ns.getD k 0 ≤ hiA k) : InA ns (k + 1) := fun j hj => by
  by_cases e : j = k
  · subst e; exact ⟨h1, h2⟩
  · exact h j (by omega)
theorem may_iff (a : AskV) : MayA a ↔ InA (numsA a) 11 ∧ a.name.size ≤ 300 ∧ a.bytes.length ≤ 2000 ∧ a.token.length ≤ 100 := by
  constructor
  · rintro ⟨h0, h1, h2, h3, h4, h5, h6, h7, h8, h9, h10, hs⟩
    refine ⟨fun j hj => ?_, hs⟩
    match j, hj with
    | 0, _ => exact h0
    | 1, _ => exact h1
    | 2, _ => exact h2
    | 3, _ => exact h3
    | 4, _ => exact h4
    | 5, _ => exact h5
    | 6, _ => exact h6
    | 7, _ => exact h7
    | 8, _ => exact h8
    | 9, _ => exact h9
    | 10, _ => exact h10
  · rintro ⟨h, hs⟩
    exact ⟨h 0 (by omega), h 1 (by omega), h 2 (by omega), h 3 (by omega), h 4 (by omega), h 5 (by omega), h 6 (by omega), h 7 (by omega), h 8 (by omega), h 9 (by omega), h 10 (by omega), hs⟩
theorem may_not {a : AskV} {k : Nat} (hk : k < 11) (h : (numsA a).getD k 0 < loA k ∨ hiA k < (numsA a).getD k 0) : ¬ MayA a := fun m => by
  have := ((may_iff a).1 m).1 k hk
  omega

set_option maxRecDepth 100000 in
set_option maxHeartbeats 1000000 in
theorem mayP_any (a : AskV) (A1 A2 : Option Addr) (c1 c2 : Nat) (w : World) :
    Calls Tryd.prog 12 #[.agg (askVals a A1 c1 A2 c2)] w fun e w' => e = .returned (.bool (decide (MayA a))) ∧ Below w.heap.size w w' := by
  obtain ⟨R, hR⟩ : ∃ R, R = decide (MayA a) := ⟨_, rfl⟩
  have HQ := Lib.hid hR
  rw [← hR]
  have HR0 : Hid (ReqAt (w.alloc (.cells (askVals a A1 c1 A2 c2) 24)) w.heap.size (askVals a A1 c1 A2 c2)) := heap_alloc_new w _
  obtain ⟨V, hV⟩ : ∃ V, V = askVals a A1 c1 A2 c2 := ⟨_, rfl⟩
  have HV : Hid (V = askVals a A1 c1 A2 c2) := hV
  rw [← hV] at HR0
  rw [← hV]
  clear hV hR
  go_enter Tryd.func12, Tryd.ntmps12
  go_wp2_with fail
  refine (numbersOf_any w.heap.size _).mono ?_
  rintro e w1 ⟨A, rfl, hn, hA, hb⟩
  have HN := Lib.hid hn
  have HR := Lib.hid (HR0.out.next hb)
  have HB := Lib.hid (below_next (below_new w _) hb)
  clear hn hb hA HR0
  obtain ⟨g, hg⟩ : ∃ g, g = w.heap.size := ⟨_, rfl⟩
  rw [← hg] at HN HR
  rw [← hg]
  clear hg
  have HS : Hid (Below w1.heap.size w1 w1) := Below.refl _ _
  go_wp2
  go_loopw [7] (fun i wr => ∃ k : Nat, k ≤ 11 ∧ i = .int .i64 k ∧ InA (numsA a) k ∧ Below w1.heap.size w1 wr) (fun i _ => 11 - (intOf i).toNat)
  case atStart => exact ⟨0, by omega, rfl, fun j hj => by omega, HS.out⟩
  case round =>
    obtain ⟨k, hk, rfl, hin, hrow⟩ := hrel
    have HM := Lib.hid hrow
    have HI := Lib.hid hin
    have hr := HR.out.next HM.out
    rw [HV.out] at hr
    clear hrow HS hin
    by_cases hlt : k < 11
    · have hx := hr.num hlt
      have hn := HN.out.next HM.out
      have k0 := hn.c0 k hlt
      have k1 := hn.c1 k hlt
      have k2 := hn.c2 k hlt
      clear hr hn
      obtain ⟨x, hX⟩ : ∃ x, x = (numsA a).getD k 0 := ⟨_, rfl⟩
      obtain ⟨lo, hlo⟩ : ∃ x, x = loA k := ⟨_, rfl⟩
      obtain ⟨hi, hhi⟩ : ∃ x, x = hiA k := ⟨_, rfl⟩
      rw [← hX] at hx
      rw [← hlo] at k1
      rw [← hhi] at k2
      have HX := Lib.hid hX
      have HLO := Lib.hid hlo
      have HHI := Lib.hid hhi
      have hx2 : (wr.alloc (.cells #[.pointer (some ⟨g, k, none⟩), .int .i64 lo, .int .i64 hi] 62)).cell? ⟨g, k, none⟩ = some (.int .i64 x) := cellB hx (below_new wr _)
      have HB2 : Hid (Below w1.heap.size w1 (wr.alloc (.cells #[.pointer (some ⟨g, k, none⟩), .int .i64 lo, .int .i64 hi] 62))) := HM.out.alloc HM.out.size _
      have p0 : (wr.alloc (.cells #[.pointer (some ⟨g, k, none⟩), .int .i64 lo, .int .i64 hi] 62)).cell? ⟨wr.heap.size, 0, none⟩ = some (.pointer (some ⟨g, k, none⟩)) := cell_of_row _ _ 0 _ _ _ (heap_alloc_new wr _)
      have p1 : (wr.alloc (.cells #[.pointer (some ⟨g, k, none⟩), .int .i64 lo, .int .i64 hi] 62)).cell? ⟨wr.heap.size, 1, none⟩ = some (.int .i64 lo) := cell_of_row _ _ 1 _ _ _ (heap_alloc_new wr _)
      have p2 : (wr.alloc (.cells #[.pointer (some ⟨g, k, none⟩), .int .i64 lo, .int .i64 hi] 62)).cell? ⟨wr.heap.size, 2, none⟩ = some (.int .i64 hi) := cell_of_row _ _ 2 _ _ _ (heap_alloc_new wr _)
      clear hX hx hlo hhi
      by_cases h1 : x < lo
      · have HF : Hid (R = false) := by show R = false; rw [HQ.out, decide_eq_false_iff_not]; exact may_not hlt (.inl (by rw [← HX.out, ← HLO.out]; exact h1))
        have d1 : decide (x < lo) = true := decide_eq_true h1
        clear h1
        go_wp2
        generalize wr.alloc (.cells #[.pointer (some ⟨g, k, none⟩), .int .i64 lo, .int .i64 hi] 62) = w2 at hx2 HB2 p0 p1 p2 ⊢
        go_quiet (fail)
        go_wp2
        go_ret
        exact ⟨by rw [HF.out]; rfl, below_drewN (below_next HB.out HB2.out) _⟩
      · have d1 : decide (x < lo) = false := decide_eq_false h1
        by_cases h2 : hi < x
        · have HF : Hid (R = false) := by show R = false; rw [HQ.out, decide_eq_false_iff_not]; exact may_not hlt (.inr (by rw [← HX.out, ← HHI.out]; exact h2))
          have d2 : decide (hi < x) = true := decide_eq_true h2
          clear h1 h2
          go_wp2
          generalize wr.alloc (.cells #[.pointer (some ⟨g, k, none⟩), .int .i64 lo, .int .i64 hi] 62) = w2 at hx2 HB2 p0 p1 p2 ⊢
          go_quiet (fail)
          go_wp2
          go_ret
          exact ⟨by rw [HF.out]; rfl, below_drewN (below_next HB.out HB2.out) _⟩
        · have d2 : decide (hi < x) = false := decide_eq_false h2
          have HNX : Hid (InA (numsA a) (k + 1)) := inA_next HI.out (by rw [← HX.out, ← HLO.out]; omega) (by rw [← HX.out, ← HHI.out]; omega)
          clear h1 h2
          go_wp2
          generalize wr.alloc (.cells #[.pointer (some ⟨g, k, none⟩), .int .i64 lo, .int .i64 hi] 62) = w2 at hx2 HB2 p0 p1 p2 ⊢
          go_quiet (fail)
          go_wp2
          go_roundw
          case rel => exact ⟨k + 1, by omega, by go_num, HNX.out, below_drewN HB2.out _⟩
          case measure => simp [intOf]; omega
    · have e : k = 11 := by omega
      subst e
      have s0 : wr.cell? ⟨g, 11, none⟩ = some (.string a.name) := by rw [cell_of_row _ _ 11 _ _ _ hr]; rfl
      have s1 : wr.cell? ⟨g, 12, none⟩ = some (.slice A1 a.bytes.length c1) := by rw [cell_of_row _ _ 12 _ _ _ hr]; rfl
      have s2 : wr.cell? ⟨g, 13, none⟩ = some (.slice A2 a.token.length c2) := by rw [cell_of_row _ _ 13 _ _ _ hr]; rfl
      have hq : R = decide (a.name.size ≤ 300 ∧ a.bytes.length ≤ 2000 ∧ a.token.length ≤ 100) := by
        rw [HQ.out]
        exact decide_eq_decide.2 ((may_iff a).trans ⟨fun h => h.2, fun h => ⟨HI.out, h⟩⟩)
      have HQ2 := Lib.hid hq
      obtain ⟨s, hs⟩ : ∃ s, s = a.name := ⟨_, rfl⟩
      obtain ⟨n1, hn1⟩ : ∃ s, s = a.bytes.length := ⟨_, rfl⟩
      obtain ⟨n2, hn2⟩ : ∃ s, s = a.token.length := ⟨_, rfl⟩
      rw [← hs] at s0 HQ2
      rw [← hn1] at s1 HQ2
      rw [← hn2] at s2 HQ2
      clear hr hq hs hn1 hn2
      by_cases h1 : s.size ≤ 300
      · have d1 : decide ((s.size : Int) ≤ 300) = true := by rw [decide_eq_true_iff]; omega
        by_cases h2 : n1 ≤ 2000
        · have d2 : decide ((n1 : Int) ≤ 2000) = true := by rw [decide_eq_true_iff]; omega
          have HF : Hid (R = decide ((n2 : Int) ≤ 100)) := by
            show R = _
            rw [HQ2.out]
            exact decide_eq_decide.2 ⟨fun h => by omega, fun h => ⟨h1, h2, by omega⟩⟩
          clear h1 h2
          go_wp2
          go_ret
          exact ⟨by rw [HF.out]; rfl, below_next HB.out HM.out⟩
        · have d2 : decide ((n1 : Int) ≤ 2000) = false := by rw [decide_eq_false_iff_not]; omega
          have HF : Hid (R = false) := by show R = false; rw [HQ2.out, decide_eq_false_iff_not]; omega
          clear h1 h2
          go_wp2
          go_ret
          exact ⟨by rw [HF.out]; rfl, below_next HB.out HM.out⟩
      · have d1 : decide ((s.size : Int) ≤ 300) = false := by rw [decide_eq_false_iff_not]; omega
        have HF : Hid (R = false) := by show R = false; rw [HQ2.out, decide_eq_false_iff_not]; omega
        clear h1
        go_wp2
        go_ret
        exact ⟨by rw [HF.out]; rfl, below_next HB.out HM.out⟩
end Go.Proofs.YtidpihpddkfhgaaDoor

/- Contracts: slices.Equal of whole numbers, bytes.Equal. -/
namespace Go.Proofs.YtidpihpddkfhgaaDoor
open Go.RowKit Slices Go.Proofs.YtidpihpddkfhgaaDoor.Bit

set_option maxRecDepth 100000 in
set_option maxHeartbeats 2000000 in
theorem sEqual_any (A A' : Option Addr) (c c' n n' B : Nat) (l l' : List Int) (w : World) (hn : n = l.length) (hn' : n' = l'.length) (hl : n ≤ 4611686018427387904) (hl' : n' ≤ 4611686018427387904) (h : Has .i64 w B A l) (h' : Has .i64 w B A' l') :
    Calls Tryd.prog 32 #[.slice A n c, .slice A' n' c'] w fun e w' => e = .returned (.bool (decide (l = l'))) ∧ ∃ k, w' = w.drewN k := by
  by_cases hne : n = n'
  · subst hne
    obtain ⟨R, hR⟩ : ∃ R, R = decide (l = l') := ⟨_, rfl⟩
    rw [← hR]
    have HR := Lib.hid hR
    have HN := Lib.hid hn
    have HN' := Lib.hid hn'
    have H := Lib.hid h
    have H' := Lib.hid h'
    clear hR hn hn' h h'
    go_enter Tryd.func32, Tryd.ntmps32
    go_wp2
    go_loopw [13] (fun i wr => ∃ k d : Nat, k ≤ n ∧ i = .int .i64 k ∧ (∀ j, j < k → l.getD j 0 = l'.getD j 0) ∧ wr = w.drewN d) (fun i _ => n - (intOf i).toNat)
    case atStart => exact ⟨0, 0, Nat.zero_le _, rfl, fun j hj => by omega, rfl⟩
    case round =>
      obtain ⟨k, d, hk, rfl, hq, rfl⟩ := hrel
      have HQ := Lib.hid hq
      clear hq
      by_cases hlt : k < n
      · obtain ⟨a, rfl, _, ha⟩ := H.out k (by rw [← HN.out]; exact hlt)
        obtain ⟨a', rfl, _, ha'⟩ := H'.out k (by rw [← HN'.out]; exact hlt)
        by_cases hx : l.getD k 0 = l'.getD k 0
        · have HX := Lib.hid hx
          rw [← hx] at ha'
          clear hx
          go_wp2
          go_quiet (fail)
          go_wp2
          go_roundw
          case rel => exact ⟨k + 1, d + nq, by omega, by go_num, fun j hj => by
            by_cases e : j = k
            · subst e; exact HX.out
            · exact HQ.out j (by omega), rfl⟩
          case measure => simp [intOf]; omega
        · have HX : Hid (R = false) := by
            show R = false
            rw [HR.out, decide_eq_false_iff_not]
            intro e
            exact hx (by rw [e])
          have t1 : (l.getD k 0 == l'.getD k 0) = false := beq_eq_false_iff_ne.2 hx
          generalize l.getD k 0 = x at ha t1
          generalize l'.getD k 0 = y at ha' t1
          clear hx
          go_wp2
          go_quiet (fail)
          go_wp2
          go_ret
          exact ⟨by rw [HX.out]; rfl, d + nq, by rw [World.drewN_drewN]⟩
      · have HX : Hid (R = true) := by
          show R = true
          rw [HR.out, decide_eq_true_iff]
          have e1 := HN.out
          have e2 := HN'.out
          exact list_eq (by omega) fun j hj => HQ.out j (by omega)
        go_wp2
        go_ret
        exact ⟨by rw [HX.out]; rfl, d, rfl⟩
  · have e : decide (l = l') = false := by
      rw [decide_eq_false_iff_not]
      intro e
      exact hne (by rw [hn, hn', e])
    rw [e]
    have t1 : ((n : Int) == (n' : Int)) = false := by rw [beq_eq_false_iff_ne]; omega
    clear hne hn hn' e h h'
    go_enter Tryd.func32, Tryd.ntmps32
    go_wp2
    go_ret
    exact ⟨rfl, 0, rfl⟩

theorem str_beq {l l' : List Int} (h : Fit 8 l) (h' : Fit 8 l') : ((strOfNums l).toList == (strOfNums l').toList) = decide (l = l') := by
  by_cases e : l = l'
  · subst e
    rw [decide_eq_true rfl]
    exact beq_self_eq_true _
  · rw [decide_eq_false e, beq_eq_false_iff_ne]
    intro q
    rw [ByteArray.toList_eq, ByteArray.toList_eq] at q
    have q2 : strOfNums l = strOfNums l' := ByteArray.ext (Array.toList_inj.mp q)
    apply e
    rw [← strNums_of h, ← strNums_of h', q2]
set_option maxRecDepth 100000 in
set_option maxHeartbeats 1000000 in
theorem bEqual_any (A A' : Option Addr) (c c' n n' B : Nat) (l l' : List Int) (w : World) (hn : l.length = n) (hn' : l'.length = n') (f : Fit 8 l) (f' : Fit 8 l') (h : Has .u8 w B A l) (h' : Has .u8 w B A' l') :
    Calls Tryd.prog 34 #[.slice A n c, .slice A' n' c'] w fun e w' => e = .returned (.bool (decide (l = l'))) ∧ w = w' := by
  have HC := conv_has (n := n) (c := c) h hn
  have HC' := conv_has (n := n') (c := c') h' hn'
  have HS := str_beq f f'
  generalize decide (l = l') = R at HS ⊢
  clear h h' f f' hn hn'
  go_enter Tryd.func34, Tryd.ntmps34
  go_wp2
  go_ret
  exact ⟨rfl, rfl⟩
end Go.Proofs.YtidpihpddkfhgaaDoor

