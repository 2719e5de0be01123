/- Contracts: why a change is refused, by the program's own code. -/
import Derived.Test.YtealebeacddbbaaDoorOe
namespace Go.Proofs.YtealebeacddbbaaDoor
open Go.RowKit Slices

theorem unless_yes (c : Int) (x : Value) (w : World) :
    Calls Tryd.prog 41 #[.bool true, .int .i64 c, x] w fun e w' => e = .returned .nilIface ∧ w = w' := by
  go_enter Tryd.func41, Tryd.ntmps41
  go_wp2
  go_ret
  exact ⟨rfl, rfl⟩
theorem unless_no (c : Int) (x : ByteArray) (w : World) :
    Calls Tryd.prog 41 #[.bool false, .int .i64 c, .string x] w fun e w' => e = .returned (.iface 49 (.pointer (some ⟨w.heap.size, 0, none⟩))) ∧ w' = w.alloc (.cells #[.int .i64 c, .string x] 54) := by
  go_enter Tryd.func41, Tryd.ntmps41
  go_wp2
  go_ret
  exact ⟨rfl, rfl⟩
theorem unless_yes2 {b : Bool} (c : Int) (x : ByteArray) (w : World) (hb : b = true) :
    Calls Tryd.prog 41 #[.bool b, .int .i64 c, .string x] w fun e w' => e = .returned .nilIface ∧ w = w' := by
  rw [hb]
  exact unless_yes c _ w
theorem unless_no2 {b : Bool} (c : Int) (x : ByteArray) (w : World) (hb : b = false) :
    Calls Tryd.prog 41 #[.bool b, .int .i64 c, .string x] w fun e w' => e = .returned (.iface 49 (.pointer (some ⟨w.heap.size, 0, none⟩))) ∧ w' = w.alloc (.cells #[.int .i64 c, .string x] 54) := by
  rw [hb]
  exact unless_no c x w
set_option maxRecDepth 100000 in
set_option maxHeartbeats 2000000 in
theorem haveKey_yes (K : KeyV) (A : Option Addr) (c : Nat) (w : World) (h : RdK w A c K) (m : MayK K) :
    Calls Tryd.prog 40 #[keyVal K A c] w fun e w' => e = .returned .nilIface ∧ Below w.heap.size w w' := by
  have hb0 : Below w.heap.size w (w.alloc (.cells #[.int .i64 K.id, .int .i64 K.ten, .int .i64 K.set, .slice A K.vs.length c] 24)) := (Below.refl _ _).alloc (Nat.le_refl _) _
  have RD := Lib.hid (h.next hb0)
  have B0 := Lib.hid hb0
  have HM := Lib.hid m
  have HF := Lib.hid (may_few m)
  clear h hb0 m
  unfold keyVal
  go_enter Tryd.func40, Tryd.ntmps40
  go_wp2_with fail
  generalize World.alloc _ _ = W at RD B0 ⊢
  refine (pMay_any K A c W RD.out HF.out).mono ?_
  rw [mayKC_yes HM.out]
  rintro e w1 ⟨rfl, hb⟩
  have B1 := Lib.hid (below_next B0.out hb)
  clear hb
  go_wp2_with fail
  refine (unless_yes _ _ w1).mono ?_
  rintro e w2 ⟨rfl, rfl⟩
  go_wp2
  go_ret
  exact ⟨rfl, B1.out⟩
set_option maxRecDepth 100000 in
set_option maxHeartbeats 2000000 in
theorem haveVersion_yes (K : KeyV) (n : Int) (A : Option Addr) (c : Nat) (w : World) (h1 : 1 ≤ n ∧ n ≤ (K.vs.length : Int)) :
    Calls Tryd.prog 42 #[keyVal K A c, .int .i64 n] w fun e w' => e = .returned .nilIface ∧ Below w.heap.size w w' := by
  have hb0 : Below w.heap.size w (w.alloc (.cells #[.int .i64 K.id, .int .i64 K.ten, .int .i64 K.set, .slice A K.vs.length c] 24)) := (Below.refl _ _).alloc (Nat.le_refl _) _
  have B0 := Lib.hid hb0
  have HT := Lib.hid (decide_eq_true h1)
  clear hb0 h1
  unfold keyVal
  go_enter Tryd.func42, Tryd.ntmps42
  go_wp2_with fail
  generalize World.alloc _ _ = W at B0 ⊢
  refine (isThere_any K n A c W).mono ?_
  rw [HT.out]
  rintro e w1 ⟨rfl, hb⟩
  have B1 := Lib.hid (below_next B0.out hb)
  clear hb
  go_wp2_with fail
  refine (unless_yes _ _ w1).mono ?_
  rintro e w2 ⟨rfl, rfl⟩
  go_wp2
  go_ret
  exact ⟨rfl, B1.out⟩
/-- from which states an op goes -/
def fromL (op : Int) : List Int := if op = 5 then [2] else if op = 6 then [1] else if op = 7 then [1, 2] else [3]
theorem from_mem {op : Int} (h1 : 5 ≤ op) (h2 : op ≤ 8) (st : Int) : st ∈ fromL op ↔ From op st := by
  unfold fromL From
  rcases (by omega : op = 5 ∨ op = 6 ∨ op = 7 ∨ op = 8) with rfl | rfl | rfl | rfl <;> simp
/-- a turn is told: from which states, and to which -/
def TurnTold (op : Int) (w : World) (e : Ending) (w' : World) : Prop := ∃ (a : Addr) (c : Nat), e = .returned (.tuple #[.slice (some a) (fromL op).length c, .int .i64 (toS op)]) ∧ Has .i64 w' w'.heap.size (some a) (fromL op) ∧ (fromL op).length ≤ c ∧ Below w.heap.size w w'
theorem has_row1 {w : World} {g : Nat} {t : TypeId} {x : Int} (h : w.heap[g]? = some (.cells #[.int .i64 x] t (0, 0))) : Has .i64 w w.heap.size (some ⟨g, 0, none⟩) [x] := fun k hk => by
  obtain rfl : k = 0 := by simp at hk; omega
  exact ⟨⟨g, 0, none⟩, rfl, (Array.getElem?_eq_some_iff.1 h).1, cell_of_row _ _ 0 _ _ _ h⟩
theorem has_row2 {w : World} {g : Nat} {t : TypeId} {x y : Int} (h : w.heap[g]? = some (.cells #[.int .i64 x, .int .i64 y] t (0, 0))) : Has .i64 w w.heap.size (some ⟨g, 0, none⟩) [x, y] := fun k hk => by
  rcases (by simp at hk; omega : k = 0 ∨ k = 1) with rfl | rfl
  · exact ⟨⟨g, 0, none⟩, rfl, (Array.getElem?_eq_some_iff.1 h).1, cell_of_row _ _ 0 _ _ _ h⟩
  · exact ⟨⟨g, 0, none⟩, rfl, (Array.getElem?_eq_some_iff.1 h).1, cell_of_row _ _ 1 _ _ _ h⟩
set_option maxRecDepth 100000 in
set_option maxHeartbeats 2000000 in
theorem turn_any (op : Int) (w : World) (h1 : 5 ≤ op) (h2 : op ≤ 8) :
    Calls Tryd.prog 30 #[.int .i64 op] w (TurnTold op w) := by
  rcases (by omega : op = 5 ∨ op = 6 ∨ op = 7 ∨ op = 8) with rfl | rfl | rfl | rfl
  · clear h1 h2
    go_enter Tryd.func30, Tryd.ntmps30
    go_wp2
    go_ret2
    exact ⟨⟨w.heap.size, 0, none⟩, 1, rfl, has_row1 (heap_alloc_new w _), Nat.le_refl 1, (Below.refl _ _).alloc (Nat.le_refl _) _⟩
  · clear h1 h2
    go_enter Tryd.func30, Tryd.ntmps30
    go_wp2
    go_ret2
    exact ⟨⟨w.heap.size, 0, none⟩, 1, rfl, has_row1 (heap_alloc_new w _), Nat.le_refl 1, (Below.refl _ _).alloc (Nat.le_refl _) _⟩
  · clear h1 h2
    go_enter Tryd.func30, Tryd.ntmps30
    go_wp2
    go_ret2
    exact ⟨⟨w.heap.size, 0, none⟩, 2, rfl, has_row2 (heap_alloc_new w _), Nat.le_refl 2, (Below.refl _ _).alloc (Nat.le_refl _) _⟩
  · clear h1 h2
    go_enter Tryd.func30, Tryd.ntmps30
    go_wp2
    go_ret2
    exact ⟨⟨w.heap.size, 0, none⟩, 1, rfl, has_row1 (heap_alloc_new w _), Nat.le_refl 1, (Below.refl _ _).alloc (Nat.le_refl _) _⟩
set_option maxRecDepth 100000 in
set_option maxHeartbeats 2000000 in
theorem index_any (l : List Int) (x : Int) (a : Addr) (n c : Nat) (w : World) (hn : n = l.length) (h : Has .i64 w w.heap.size (some a) l) (few : n ≤ 8) :
    Calls Tryd.prog 47 #[.slice (some a) n c, .int .i64 x] w fun e w' => ∃ r : Int, e = .returned (.int .i64 r) ∧ (0 ≤ r ↔ x ∈ l) ∧ w = w' := by
  have H := Lib.hid h
  have HN := Lib.hid hn
  clear h hn
  go_enter Tryd.func47, Tryd.ntmps47
  go_wp2
  go_loopw [5, 8] (fun _ i wr => ∃ k : Nat, k ≤ n ∧ i = .int .i64 k ∧ wr = w ∧ ∀ j, j < k → l.getD j 0 ≠ x) (fun _ i _ => n - (intOf i).toNat)
  case atStart => exact ⟨0, by omega, rfl, rfl, fun j hj => by cases hj⟩
  case round =>
    obtain ⟨k, hk, rfl, hw, hr⟩ := hrel
    obtain rfl := hw
    have HR := Lib.hid hr
    clear hr
    by_cases hlt : k < n
    · obtain ⟨a', e, hab, hc⟩ := H.out k (by rw [← HN.out]; exact hlt)
      injection e with e
      subst e
      obtain ⟨y, hy⟩ : ∃ y, y = l.getD k 0 := ⟨_, rfl⟩
      rw [← hy] at hc
      have HY := Lib.hid hy
      clear hy
      by_cases e : x = y
      · have hm : Hid (x ∈ l) := by
          show x ∈ l
          rw [e, HY.out, List.getD_eq_getElem?_getD, List.getElem?_eq_getElem (by rw [← HN.out]; exact hlt)]
          exact List.getElem_mem _
        subst e
        go_wp2
        go_ret
        exact ⟨(k : Int), rfl, ⟨fun _ => hm.out, fun _ => by omega⟩, rfl⟩
      · have t : (x == y) = false := beq_eq_false_iff_ne.2 e
        have NE := Lib.hid e
        clear e
        go_wp2
        go_roundw
        case rel => exact ⟨k + 1, by omega, by go_num, trivial, fun j hj => by
          by_cases q : j = k
          · rw [q, ← HY.out]; exact fun z => NE.out z.symm
          · exact HR.out j (by omega)⟩
        case measure => simp [intOf]; omega
    · obtain rfl : k = n := by omega
      have hm : Hid (x ∉ l) := fun q => by
        obtain ⟨j, hj, rfl⟩ := List.mem_iff_getElem.1 q
        refine HR.out j (by rw [HN.out]; exact hj) ?_
        rw [List.getD_eq_getElem?_getD, List.getElem?_eq_getElem hj]
        rfl
      go_wp2
      go_ret
      exact ⟨-1, rfl, ⟨fun q => absurd q (by decide), fun q => absurd q hm.out⟩, rfl⟩
set_option maxRecDepth 100000 in
set_option maxHeartbeats 2000000 in
theorem contains_any (l : List Int) (x : Int) (a : Addr) (n c : Nat) (w : World) (hn : n = l.length) (h : Has .i64 w w.heap.size (some a) l) (few : n ≤ 8) :
    Calls Tryd.prog 43 #[.slice (some a) n c, .int .i64 x] w fun e w' => ∃ b : Bool, e = .returned (.bool b) ∧ (b = true ↔ x ∈ l) ∧ w = w' := by
  have HC := Lib.hid (index_any l x a n c w hn h few)
  clear h hn few
  go_enter Tryd.func43, Tryd.ntmps43
  go_wp2_with fail
  refine HC.out.mono ?_
  rintro e w' ⟨r, rfl, hr, rfl⟩
  have HR := Lib.hid hr
  clear hr
  go_wp2
  go_ret
  exact ⟨_, rfl, by rw [← HR.out]; simp, rfl⟩
end Go.Proofs.YtealebeacddbbaaDoor
