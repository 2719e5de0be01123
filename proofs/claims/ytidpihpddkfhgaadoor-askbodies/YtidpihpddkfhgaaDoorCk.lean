/- Errors by their numbers, wrapped once or twice; what may be appended to. -/
import Derived.Test.YtidpihpddkfhgaaDoorCj
import Derived.Test.YtidpihpddkfhgaaDoorCg
import Derived.Test.YtidpihpddkfhgaaDoorCh
import Derived.Test.YtidpihpddkfhgaaDoorEw
namespace Go.Proofs.YtidpihpddkfhgaaDoor
open Go.RowKit Slices Go.Proofs.YtidpihpddkfhgaaDoor.Bit

/-- an error whose number is c, wrapped once; of 0 none -/
def IsW (c : Int) (v : Value) (w : World) : Prop := (c = 0 ∧ v = .nilIface) ∨ (c ≠ 0 ∧ ∃ (q : Nat) (p : Addr), v = .iface 76 (.pointer (some ⟨q, 0, none⟩)) ∧ w.cell? ⟨q, 1, none⟩ = some (.iface 49 (.pointer (some p))) ∧ w.cell? p = some (.int .i64 c))
/-- an error whose number is c, wrapped once or twice; of 0 none -/
def IsErr (c : Int) (v : Value) (w : World) : Prop := (c = 0 ∧ v = .nilIface) ∨ (c ≠ 0 ∧ ∃ (q : Nat) (p : Addr), v = .iface 76 (.pointer (some ⟨q, 0, none⟩)) ∧ w.cell? p = some (.int .i64 c) ∧
  (w.cell? ⟨q, 1, none⟩ = some (.iface 49 (.pointer (some p))) ∨ ∃ q1 : Nat, w.cell? ⟨q, 1, none⟩ = some (.iface 76 (.pointer (some ⟨q1, 0, none⟩))) ∧ w.cell? ⟨q1, 1, none⟩ = some (.iface 49 (.pointer (some p)))))
theorem IsW.err {c : Int} {v : Value} {w : World} (h : IsW c v w) : IsErr c v w := by
  rcases h with h | ⟨h0, q, p, hv, hq, hc⟩
  · exact .inl h
  · exact .inr ⟨h0, q, p, hv, hc, .inl hq⟩
theorem IsW.next {c : Int} {v : Value} {w w' : World} (h : IsW c v w) (hb : Below w.heap.size w w') : IsW c v w' := by
  rcases h with h | ⟨h0, q, p, hv, hq, hc⟩
  · exact .inl h
  · exact .inr ⟨h0, q, p, hv, cell_below hq hb, cell_below hc hb⟩
theorem IsErr.next {c : Int} {v : Value} {w w' : World} (h : IsErr c v w) (hb : Below w.heap.size w w') : IsErr c v w' := by
  rcases h with h | ⟨h0, q, p, hv, hc, hq | ⟨q1, hq1, hq⟩⟩
  · exact .inl h
  · exact .inr ⟨h0, q, p, hv, cell_below hc hb, .inl (cell_below hq hb)⟩
  · exact .inr ⟨h0, q, p, hv, cell_below hc hb, .inr ⟨q1, cell_below hq1 hb, cell_below hq hb⟩⟩
theorem num_any (c : Int) (v : Value) (w : World) (hg : Han w) (h : IsErr c v w) :
    Calls Tryd.prog 11 #[v] w fun ev w' => ev = .returned (.int .i64 c) ∧ Below w.heap.size w w' := by
  rcases h with ⟨rfl, rfl⟩ | ⟨h0, q, p, rfl, hc, hq | ⟨q1, hq1, hq⟩⟩
  · exact (num_nil w).mono fun e w' h => ⟨h.1, by rw [h.2]; exact Below.refl _ _⟩
  · exact num_w q p c w hg hq hc h0
  · exact num_ww q q1 p c w hg hq1 hq hc h0

/-- what may be appended to -/
def Base (w : World) (A : Option Addr) (n c : Nat) (b : List Int) : Prop := n = b.length ∧ Has .u8 w w.heap.size A b ∧ (A = none → n = 0 ∧ c = 0) ∧ n ≤ c ∧ n ≤ 10000
theorem Base.next {w w' : World} {A : Option Addr} {n c : Nat} {b : List Int} (h : Base w A n c b) (hb : Below w.heap.size w w') : Base w' A n c b := ⟨h.1, has_next h.2.1 hb, h.2.2⟩
theorem own_cap {t : TypeId} {w : World} {B n c : Nat} {A : Option Addr} {xs : List Value} (h : w.ownsRow B t 1 (.slice A n c) n xs) : n ≤ c := by
  rcases h.2 with ⟨hv, h0⟩ | ⟨g, c', cur, hv, _, _, hc, _⟩
  · omega
  · injection hv with h1 h2 h3
    omega
theorem Base.of {w : World} {B n c : Nat} {A : Option Addr} {b : List Int} (h : w.ownsRow B 5 1 (.slice A n c) n (ints .u8 b)) (hn : n ≤ 10000) : Base w A n c b :=
  have hl := own_len h
  ⟨hl.symm, own_readn hl.symm h, own_none h, own_cap h, hn⟩
theorem base_nil (w : World) : Base w none 0 0 [] := ⟨rfl, Has.nil _ _ _ _, fun _ => ⟨rfl, rfl⟩, Nat.le_refl _, Nat.zero_le _⟩
/-- how many bytes are left -/
def leftI (l : List Int) (bad : Bool) : Int := if bad then 0 else (l.length : Int)
/-- the end's number -/
def endI (l : List Int) (bad : Bool) : Int := if bad = true ∨ 0 < l.length then 4 else 0

theorem below_grown {w0 w w' : World} {g : Nat} (h : Below w0.heap.size w0 w) (hg : w.grownBy w' (some g)) (hlo : w0.heap.size ≤ g) : Below w0.heap.size w0 w' := h.grown hg h.size (fun q e => by injection e with e; omega)
end Go.Proofs.YtidpihpddkfhgaaDoor
