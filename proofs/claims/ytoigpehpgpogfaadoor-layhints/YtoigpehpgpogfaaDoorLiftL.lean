/- The row's step for lists of lists: what one that is handed in reads as, and where it lies. -/
import Derived.Test.YtoigpehpgpogfaaDoorLift
import Derived.Test.YtoigpehpgpogfaaDoorMf
import Derived.Deep.Matrix
namespace Go.Proofs.YtoigpehpgpogfaaDoor
open Go.ChangeShapes Go.WideShapes Go.ChangeAt Go.RowKit Slices Go.Proofs.YtoigpehpgpogfaaDoor.Bit

theorem Tryd.cellsInts : Tryd.prog.cellsOf 22 = 1 := by kernel_rfl
theorem Tryd.bytesInts : Tryd.prog.bytesOf 22 = 24 := by kernel_rfl
theorem viewL {H : Type} {enc : TypeId × Value → H} {W : World} {fuel : Nat} {A : Option Addr} {n c : Nat} {d : DataW H} {p : List MemPlace}
    (h : DataW.trod enc Tryd.prog W 0 (fun _ => true) true fuel 45 (Value.slice A n c).cells.toList = some (d, p)) :
    ∃ es : List Ent, es.length = n ∧ n ≤ c ∧ (A = none → n = 0 ∧ c = 0) ∧ HasL W W.heap.size A es ∧ (∀ i (h : i < es.length), es[i].l.length ≤ maxLen) ∧ (d = .nil ∧ n = 0 ∨ ∃ ds sp, d = .slice ds sp ∧ ds.length = n) := by
  rcases Go.Deep.open_int_rows Tryd.underlying45 Tryd.underlying22 Tryd.underlying3 Tryd.cellsInts Tryd.cells3 h with ⟨hcs, hx⟩ | ⟨a, len, cap, Ar, L, C, Z, hcs, _, hl, _, hx, hr⟩
  · simp [Value.cells] at hcs
    obtain ⟨rfl, rfl, rfl⟩ := hcs
    simp only [Prod.mk.injEq] at hx
    exact ⟨[], rfl, Nat.le_refl _, fun _ => ⟨rfl, rfl⟩, fun k hk => by (cases hk), fun i hi => by (cases hi), .inl ⟨hx.1, rfl⟩⟩
  · simp [Value.cells] at hcs
    obtain ⟨rfl, rfl, rfl⟩ := hcs
    simp only [Prod.mk.injEq] at hx
    have hlen : ((List.range n).map fun r => (⟨Ar r, C r, (Z r).take (L r)⟩ : Ent)).length = n := by simp
    have hget : ∀ i (h : i < ((List.range n).map fun r => (⟨Ar r, C r, (Z r).take (L r)⟩ : Ent)).length), ((List.range n).map fun r => (⟨Ar r, C r, (Z r).take (L r)⟩ : Ent))[i] = ⟨Ar i, C i, (Z i).take (L i)⟩ := fun i h => by simp
    refine ⟨(List.range n).map fun r => ⟨Ar r, C r, (Z r).take (L r)⟩, hlen, hl, fun e => by (cases e), fun k hk => ?_, fun i hi => ?_, .inr ⟨_, _, hx.1, by simp⟩⟩
    · rw [hget k hk]
      rw [hlen] at hk
      obtain ⟨hc, h1, _, h3, _, h5, h6⟩ := hr k (by omega)
      have hl2 : ((Z k).take (L k)).length = L k := by rw [List.length_take]; omega
      refine ⟨⟨a, rfl, by have := lt_of_cell hc; rwa [add_block] at this, by rw [hl2]; exact hc⟩, fun j hj => ?_⟩
      have hj' : j < L k := by rw [hl2] at hj; exact hj
      cases ha : Ar k with
      | none => have := h5 ha; omega
      | some a' =>
        have hcell := (h6 a' ha).2 j (by omega)
        refine ⟨a', rfl, by have := lt_of_cell hcell; rwa [add_block] at this, ?_⟩
        rw [hcell, getD_take _ _ _ hj']
    · rw [hget i hi]
      rw [hlen] at hi
      obtain ⟨_, h1, h2, h3, _⟩ := hr i (by omega)
      show ((Z i).take (L i)).length ≤ maxLen
      rw [List.length_take]; omega
end Go.Proofs.YtoigpehpgpogfaaDoor
