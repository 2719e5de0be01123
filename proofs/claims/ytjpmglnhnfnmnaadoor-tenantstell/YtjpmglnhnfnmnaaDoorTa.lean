/- Contracts: lists of tenants that are alike; is there such a tenant; is a list great. -/
import Derived.Test.YtjpmglnhnfnmnaaDoorTw
import Derived.Test.YtjpmglnhnfnmnaaDoorProg
import Derived.Laws.StructEq
namespace Go.Proofs.YtjpmglnhnfnmnaaDoor
open Go.RowKit Slices

theorem ret_bool {a b : Bool} (h : a = b) : Ending.returned (.bool a) = .returned (.bool b) := by rw [h]
theorem ret_int {k : IntKind} {a b : Int} (h : a = b) : Ending.returned (.int k a) = .returned (.int k b) := by rw [h]
/-- two structs that are one -/
theorem Tryd.neqTen (a b : Int) (s : ByteArray) (w : World) : (binOp .neq 46 (.agg #[.int .i64 a, .int .i64 b, .string s]) (.agg #[.int .i64 a, .int .i64 b, .string s])).run Tryd.prog w = .ok (.bool false) w := by
  have u3 := Tryd.underlying3
  have u9 := Tryd.underlying9
  have a3 := Tryd.isAgg3
  have a9 := Tryd.isAgg9
  have z3 := Tryd.sizeOf3
  have z9 := Tryd.sizeOf9
  have hS : Tryd.prog.underlying 46 = some (.struct (Tryd.prog.fieldsOf 46)) := by kernel_rfl
  have hp : Tryd.prog.stoodInHeld 46 = false := by kernel_rfl
  rw [run_neq_struct, show (10000 : Nat) = 9999 + 1 from rfl, run_equalIn_agg w 9999 46 _ _ hS hp]
  simp only [Program.fieldsOf, Tryd.underlying46]
  go_simp
theorem Tryd.guardTen : Tryd.prog.eqGuardType Tryd.prog.depth 46 = false := by kernel_rfl

set_option maxHeartbeats 400000 in
theorem sameT_true (A A' : Option Addr) (c c' B n n' : Nat) (l : List Ten) (w : World) (hn : n = l.length) (hn' : n' = l.length) (hl : l.length ≤ 1000) (h : HasT w B A l) (h' : HasT w B A' l) :
    Calls Tryd.prog 11 #[.slice A n c, .slice A' n' c'] w fun e w' => e = .returned (.bool true) ∧ ∃ n, w' = w.drewN n := by
  subst hn
  subst hn'
  have H := Lib.hid h
  have H' := Lib.hid h'
  clear h h'
  go_enter Tryd.func11, Tryd.ntmps11
  go_wp2
  go_loopw [5] (fun i wr => ∃ k n : Nat, k ≤ l.length ∧ i = .int .i64 k ∧ wr = w.drewN n) (fun i _ => l.length - (intOf i).toNat)
  case atStart => exact ⟨0, 0, Nat.zero_le _, rfl, rfl⟩
  case round =>
    obtain ⟨k, n, hk, rfl, rfl⟩ := hrel
    by_cases hlt : k < l.length
    · obtain ⟨a, rfl, _, a0, a1, a2⟩ := H.out.at hlt
      obtain ⟨b, rfl, _, b0, b1, b2⟩ := H'.out.at hlt
      rw [← add_add3 a (k * 3) 1] at a1
      rw [← add_add3 a (k * 3) 2] at a2
      rw [← add_add3 b (k * 3) 1] at b1
      rw [← add_add3 b (k * 3) 2] at b2
      have a1' : w.cell? ⟨(a.add (k * 3)).block, (a.add (k * 3)).off + 1, none⟩ = some (.int .i64 (tg l k).par) := a1
      have a2' : w.cell? ⟨(a.add (k * 3)).block, (a.add (k * 3)).off + 2, none⟩ = some (.string (tg l k).nm) := a2
      have b1' : w.cell? ⟨(b.add (k * 3)).block, (b.add (k * 3)).off + 1, none⟩ = some (.int .i64 (tg l k).par) := b1
      have b2' : w.cell? ⟨(b.add (k * 3)).block, (b.add (k * 3)).off + 2, none⟩ = some (.string (tg l k).nm) := b2
      have hq := Tryd.neqTen (tg l k).id (tg l k).par (tg l k).nm
      have hgd := Tryd.guardTen
      clear a1 a2 b1 b2
      go_wp2
      go_quiet (fail)
      go_wp2
      go_roundw
      case rel => exact ⟨k + 1, n + nq, by omega, by go_num, rfl⟩
      case measure => simp [intOf]; omega
    · go_wp2
      go_ret
      exact ⟨rfl, n, rfl⟩

set_option maxHeartbeats 400000 in
theorem there_any (A : Option Addr) (n c : Nat) (a : Int) (w : World) (_hn : n ≤ 1000) :
    Calls Tryd.prog 25 #[.slice A n c, .int .i64 a] w fun e w' => e = .returned (.bool (decide (1 ≤ a ∧ a ≤ (n : Int)))) ∧ w = w' := by
  by_cases h1 : 1 ≤ a
  · by_cases h2 : a ≤ (n : Int)
    · go_enter Tryd.func25, Tryd.ntmps25
      go_wp2
      go_ret
      exact ⟨ret_bool (by simp [h1, h2]), rfl⟩
    · go_enter Tryd.func25, Tryd.ntmps25
      go_wp2
      go_ret
      exact ⟨ret_bool (by simp [h2]), rfl⟩
  · go_enter Tryd.func25, Tryd.ntmps25
    go_wp2
    go_ret
    exact ⟨ret_bool (by simp; omega), rfl⟩
end Go.Proofs.YtjpmglnhnfnmnaaDoor
