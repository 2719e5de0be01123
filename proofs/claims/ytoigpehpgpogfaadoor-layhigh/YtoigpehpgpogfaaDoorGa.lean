/- Contract: numbers that are unpacked by the program, walked. -/
import Derived.Test.YtoigpehpgpogfaaDoorF
namespace Go.Proofs.YtoigpehpgpogfaaDoor
open Go.RowKit Slices Go.Proofs.YtoigpehpgpogfaaDoor.Bit

/-- the first m numbers are made -/
def URow (w : World) (D : Nat) (b : List Nat) (m : Nat) (v : Value) (wr : World) : Prop :=
  wr.ownsRow w.heap.size 3 1 v m (ints .i64 (int ((unpackN D b).take m))) ∧ Below w.heap.size w wr
theorem URow.more {w wr w1 : World} {D : Nat} {b : List Nat} {m : Nat} {v v1 : Value} {y : Int} (h : URow w D b m v wr) (hm : m < 8 * b.length / D) (hy : y = ((held (strm 8 b) (m * D) D : Nat) : Int))
    (ho : w1.ownsRow w.heap.size 3 1 v1 (m + 1) (ints .i64 (int ((unpackN D b).take m)) ++ [.int .i64 y])) (hb : Below w.heap.size wr w1) : URow w D b (m + 1) v1 w1 := by
  refine ⟨?_, h.2.trans hb⟩
  rw [unpack_more hm, ← hy, ← ints_snoc]
  exact ho
theorem and_held (q : Nat) {D : Nat} (hD : D ≤ 24) {P : Int} (hP : (2 : Int) ^ D = P) : bits .and .i64 (q : Int) (P - 1) = ((q % 2 ^ D : Nat) : Int) := by
  subst hP
  have := and_low (q : Int) (d := D) (by omega)
  rw [pow_cast, this]; simp
theorem many_le {n D : Nat} (hn : n ≤ 4000) : 8 * n / D ≤ 32000 := Nat.le_trans (Nat.div_le_self _ _) (by omega)

end Go.Proofs.YtoigpehpgpogfaaDoor
