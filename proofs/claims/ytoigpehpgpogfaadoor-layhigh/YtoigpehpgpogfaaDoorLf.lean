/- Errors by their numbers; what is asked of the program's own functions (each is proved where the landed code is walked). -/
import Derived.Test.YtoigpehpgpogfaaDoorLe
import Derived.Test.YtoigpehpgpogfaaDoorEi
namespace Go.Proofs.YtoigpehpgpogfaaDoor
open Go.RowKit Slices Go.Proofs.YtoigpehpgpogfaaDoor.Bit

/-- an error whose number is c, wrapped once; of 0 none -/
def IsErr (c : Int) (v : Value) (w : World) : Prop := (c = 0 ∧ v = .nilIface) ∨ (c ≠ 0 ∧ ∃ (q : Nat) (p : Addr), v = .iface 89 (.pointer (some ⟨q, 0, none⟩)) ∧ w.cell? ⟨q, 1, none⟩ = some (.iface 75 (.pointer (some p))) ∧ w.cell? p = some (.int .i64 c))
theorem IsErr.next {c : Int} {v : Value} {w w' : World} (h : IsErr c v w) (hb : Below w.heap.size w w') : IsErr c v w' := by
  rcases h with h | ⟨h0, q, p, hv, hq, hc⟩
  · exact .inl h
  · exact .inr ⟨h0, q, p, hv, cell_below hq hb, cell_below hc hb⟩
theorem num_any (c : Int) (v : Value) (w : World) (hg : Han w) (h : IsErr c v w) :
    Calls Tryd.prog 33 #[v] w fun ev w' => ev = .returned (.int .i64 c) ∧ Below w.heap.size w w' := by
  rcases h with ⟨rfl, rfl⟩ | ⟨h0, q, p, rfl, hq, hc⟩
  · exact (num_nil w).mono fun e w' h => ⟨h.1, by rw [h.2]; exact Below.refl _ _⟩
  · exact num_w q p c w hg hq hc h0

/-- what is asked of the program's functions: each is a contract -/
structure LayOk : Prop where
  near : ∀ (a b : Int) (A : Option Addr) (c n : Nat) (f : List Int) (w : World), n = f.length → Has .i64 w w.heap.size A f → f.length ≤ 4000 →
    Calls Tryd.prog 11 #[.int .i64 a, .int .i64 b, .slice A n c] w (Res .u8 5 w (nearI a b f))
  far : ∀ (a b : Int) (A : Option Addr) (c n : Nat) (l : List Int) (w : World), n = l.length → Has .u8 w w.heap.size A l → Fit 8 l → l.length ≤ 4000 →
    Calls Tryd.prog 12 #[.int .i64 a, .int .i64 b, .slice A n c] w (Res .i64 3 w (farI a b l))
  set : ∀ (s : Int) (w : World), Calls Tryd.prog 13 #[.int .i64 s] w fun e w' => e = .returned (.tuple #[.agg (setV s), .bool (setB s)]) ∧ Below w.heap.size w w'
  sizes : ∀ (s : Int) (w : World), Calls Tryd.prog 15 #[.int .i64 s] w fun e w' => e = .returned (.tuple #[.int .i64 (sizeN s).1, .int .i64 (sizeN s).2.1, .int .i64 (sizeN s).2.2]) ∧ Below w.heap.size w w'
  none : ∀ w : World, Calls Tryd.prog 27 #[.int .i64 0, .slice none 0 0] w fun e w' => ∃ v, e = .returned (.tuple #[.slice none 0 0, v]) ∧ IsErr 2 v w' ∧ Below w.heap.size w w'
end Go.Proofs.YtoigpehpgpogfaaDoor
