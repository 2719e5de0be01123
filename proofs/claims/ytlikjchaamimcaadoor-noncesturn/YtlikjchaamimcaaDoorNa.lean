/- Errors by their numbers; what is asked of the program's own functions (each is proved where the landed code is walked). -/
import Derived.Test.YtlikjchaamimcaaDoorNw
import Derived.Test.YtlikjchaamimcaaDoorEi
namespace Go.Proofs.YtlikjchaamimcaaDoor
open Go.RowKit Slices

/-- an error whose number is c, wrapped once; of 0 none -/
def IsErr (c : Int) (v : Value) (w : World) : Prop := (c = 0 ∧ v = .nilIface) ∨ (c ≠ 0 ∧ ∃ (q : Nat) (p : Addr), v = .iface 49 (.pointer (some ⟨q, 0, none⟩)) ∧ w.cell? ⟨q, 1, none⟩ = some (.iface 40 (.pointer (some p))) ∧ w.cell? p = some (.int .i64 c))
theorem IsErr.next {c : Int} {v : Value} {w w' : World} (h : IsErr c v w) (hb : Below w.heap.size w w') : IsErr c v w' := by
  rcases h with h | ⟨h0, q, p, hv, hq, hc⟩
  · exact .inl h
  · exact .inr ⟨h0, q, p, hv, cell_below hq hb, cell_below hc hb⟩
theorem num_any (c : Int) (v : Value) (w : World) (hg : Han w) (h : IsErr c v w) :
    Calls Tryd.prog 10 #[v] w fun ev w' => ev = .returned (.int .i64 c) ∧ Below w.heap.size w w' := by
  rcases h with ⟨rfl, rfl⟩ | ⟨h0, q, p, rfl, hq, hc⟩
  · exact (num_nil w).mono fun e w' h => ⟨h.1, by rw [h.2]; exact Below.refl _ _⟩
  · exact num_w q p c w hg hq hc h0
theorem IsErr.none {v : Value} {w : World} (h : IsErr 0 v w) : v = .nilIface := by
  rcases h with h | h
  · exact h.2
  · exact absurd rfl h.1
theorem IsErr.some {c : Int} {v : Value} {w : World} (h : IsErr c v w) (h0 : c ≠ 0) : ∃ p, v = .iface 49 (.pointer (some p)) := by
  rcases h with h | ⟨_, q, p, hv, _⟩
  · exact absurd h.1 h0
  · exact ⟨_, hv⟩

/-- what is asked of the program's functions: each is a contract -/
structure NoncesOk : Prop where
  may : ∀ (h : Int) (u : Nat) (w : World), I64 h → u < 2 ^ 64 →
    Calls Tryd.prog 11 #[.int .i64 h, .int .u64 u] w fun e w' => e = .returned (.bool (mayC h u)) ∧ Below w.heap.size w w'
  fresh : ∀ (h : Int) (u : Nat) (n : Int) (w : World), I64 h → u < 2 ^ 64 → I64 n →
    Calls Tryd.prog 13 #[.int .i64 h, .int .u64 u, .int .i64 n] w fun e w' => e = .returned (.bool (freshC h u n)) ∧ Below w.heap.size w w'
  use : ∀ (h : Int) (u : Nat) (n : Int) (w : World), I64 h → u < 2 ^ 64 → I64 n →
    Calls Tryd.prog 8 #[.int .i64 h, .int .u64 u, .int .i64 n] w fun e w' => ∃ v, e = .returned (.tuple #[.int .i64 (useH h u n), .int .u64 (useW h u n), v]) ∧ IsErr (useE h u n) v w' ∧ Below w.heap.size w w'
end Go.Proofs.YtlikjchaamimcaaDoor
