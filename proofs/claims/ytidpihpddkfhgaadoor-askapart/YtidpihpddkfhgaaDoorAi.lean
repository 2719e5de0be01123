/- Errors by their numbers; what is asked of the program's own functions (each is proved where the landed code is walked). -/
import Derived.Test.YtidpihpddkfhgaaDoorAh
import Derived.Test.YtidpihpddkfhgaaDoorAbs
import Derived.Test.YtidpihpddkfhgaaDoorCk
namespace Go.Proofs.YtidpihpddkfhgaaDoor
open Go.RowKit Slices Go.Proofs.YtidpihpddkfhgaaDoor.Bit

/-- sizes that the statements go through -/
def SmallA (a : AskV) : Prop := a.name.size ≤ 400 ∧ a.bytes.length ≤ 3000 ∧ a.token.length ≤ 200
/-- what Body answers -/
def BodyP (a : AskV) (w : World) (e : Ending) (w' : World) : Prop :=
  ∃ A' n' c' v, e = .returned (.tuple #[.slice A' n' c', v]) ∧ Below w.heap.size w w' ∧
    ((MayA a ∧ v = .nilIface ∧ n' = (laidA a).length ∧ w'.ownsRow w.heap.size 5 1 (.slice A' n' c') n' (ints .u8 (laidA a))) ∨ (¬ MayA a ∧ IsErr 2 v w' ∧ n' = 0))
/-- two rows that share nothing -/
def Dis (v v' : Value) : Prop := v.ownBlock = none ∨ v'.ownBlock = none ∨ v.ownBlock ≠ v'.ownBlock
theorem own_dis {W W' : World} {B m : Nat} {v v' : Value} {xs : List Value} (h : W.ownsRow B 5 1 v m xs) (hg : W.grownBy W' v'.ownBlock) (hd : Dis v v') : W'.ownsRow B 5 1 v m xs := by
  rcases hd with h1 | h1 | h1
  · exact h.kept hg (.inl h1)
  · rw [h1] at hg
    exact h.kept hg (own_none_row h)
  · exact h.kept hg (.inr h1)
/-- what Read answers: the request's bytes, its body and the signature are the call's own, and share nothing -/
def ReadP (l : List Int) (w : World) (e : Ending) (w' : World) : Prop :=
  ∃ a x y k A1 c1 A2 c2 X cx Y cy v, ReadIs l a x y k ∧ e = .returned (.tuple #[.agg (askVals a A1 c1 A2 c2), .slice X x.length cx, .slice Y y.length cy, v]) ∧ IsErr k v w' ∧
    AskIn w' w'.heap.size a A1 c1 A2 c2 ∧
    w'.ownsRow w.heap.size 5 1 (.slice A1 a.bytes.length c1) a.bytes.length (ints .u8 a.bytes) ∧ w'.ownsRow w.heap.size 5 1 (.slice X x.length cx) x.length (ints .u8 x) ∧ w'.ownsRow w.heap.size 5 1 (.slice Y y.length cy) y.length (ints .u8 y) ∧
    Dis (.slice Y y.length cy) (.slice X x.length cx) ∧ Dis (.slice A1 a.bytes.length c1) (.slice X x.length cx) ∧ Dis (.slice A1 a.bytes.length c1) (.slice Y y.length cy) ∧ Below w.heap.size w w'
/-- what is asked of the program's functions -/
structure AskOk : Prop where
  may : ∀ (a : AskV) (A1 : Option Addr) (c1 : Nat) (A2 : Option Addr) (c2 : Nat) (w : World), AskIn w w.heap.size a A1 c1 A2 c2 → SmallA a →
    Calls Tryd.prog 12 #[.agg (askVals a A1 c1 A2 c2)] w fun e w' => e = .returned (.bool (decide (MayA a))) ∧ Below w.heap.size w w'
  body : ∀ (a : AskV) (A1 : Option Addr) (c1 : Nat) (A2 : Option Addr) (c2 : Nat) (w : World), AskIn w w.heap.size a A1 c1 A2 c2 → SmallA a → WideA a →
    Calls Tryd.prog 8 #[.agg (askVals a A1 c1 A2 c2)] w (BodyP a w)
  same : ∀ (a b : AskV) (A1 : Option Addr) (c1 : Nat) (A2 : Option Addr) (c2 : Nat) (D1 : Option Addr) (d1 : Nat) (D2 : Option Addr) (d2 : Nat) (w : World), AskIn w w.heap.size a A1 c1 A2 c2 → AskIn w w.heap.size b D1 d1 D2 d2 → SmallA a → SmallA b → WideA a → WideA b →
    Calls Tryd.prog 14 #[.agg (askVals a A1 c1 A2 c2), .agg (askVals b D1 d1 D2 d2)] w fun e w' => e = .returned (.bool (sameV a b)) ∧ Below w.heap.size w w'
  read : ∀ (A : Option Addr) (n c : Nat) (l : List Int) (w : World), Has .u8 w w.heap.size A l → n = l.length → n ≤ 20000 → (A = none → n = 0 ∧ c = 0) → n ≤ c → Fit 8 l →
    Calls Tryd.prog 19 #[.slice A n c] w (ReadP l w)

theorem below_new_row (w : World) (cs : Array Value) (t : TypeId) (V : Array Value) : Below w.heap.size w ((w.alloc (.cells cs t)).setRow w.heap.size V) := (Below.refl _ _).grown (grown_new_row w cs t V) (Nat.le_refl _) (fun q hq => by cases hq)
/-- the request that the statements make -/
def oneA : AskV := ⟨1, 2, 9, 0, 1, 0, 0, 0, 0, 0, 0, ⟨#[]⟩, [], []⟩
theorem one_may : MayA oneA := by decide
theorem zero_not : ¬ MayA zeroA := by decide
theorem fit_none : Fit 8 ([] : List Int) := fun i hi => by cases hi
theorem wide_none (a : AskV) (h : ∀ x ∈ numsA a, I64 x) (h1 : a.bytes = []) (h2 : a.token = []) : WideA a := ⟨h, (by rw [h1]; exact fit_none), (by rw [h2]; exact fit_none)⟩
theorem in_none (a : AskV) (w : World) (h1 : a.bytes = []) (h2 : a.token = []) : AskIn w w.heap.size a none 0 none 0 := by
  refine ⟨?_, ?_, fun _ => ⟨by rw [h1]; rfl, rfl⟩, fun _ => ⟨by rw [h2]; rfl, rfl⟩, by rw [h1]; exact Nat.le_refl _, by rw [h2]; exact Nat.le_refl _⟩
  · rw [h1]; exact Has.nil _ _ _ _
  · rw [h2]; exact Has.nil _ _ _ _
set_option maxRecDepth 100000 in
set_option maxHeartbeats 1000000 in
theorem one_any (w : World) : Calls Tryd.prog 23 #[] w fun e w' => e = .returned (.agg (askVals oneA none 0 none 0)) ∧ Below w.heap.size w w' := by
  have HI : Hid ((Tryd.prog.info? 24).map (·.size) = some 14) := by show _ = _; kernel_rfl
  go_enter Tryd.func23, Tryd.ntmps23
  go_wp2_with (refine wpList_store_row rfl 24 _ _ rfl w.heap.size (askVals oneA none 0 none 0) rfl rfl 24 _ (heap_alloc_new w _) HI.out rfl (vals_one _ _ _ _ _) ?_)
  refine bodyPost_ret (v := .agg (askVals oneA none 0 none 0)) ?_ rfl ⟨rfl, below_setRow (below_new w _) (Nat.le_refl _) _⟩
  exact results_cell_row rfl _ _ w.heap.size 24 _ (0, 0) _ rfl (setRow_heap _ _ _ _ 24 (0, 0) (heap_alloc_new w _)) Tryd.underlying24 rfl HI.out
end Go.Proofs.YtidpihpddkfhgaaDoor
