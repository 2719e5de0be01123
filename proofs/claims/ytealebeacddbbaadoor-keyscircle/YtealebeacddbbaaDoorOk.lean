/- What is asked of the program's functions, proved. -/
import Derived.Test.YtealebeacddbbaaDoorOj
import Derived.Test.YtealebeacddbbaaDoorOm
namespace Go.Proofs.YtealebeacddbbaaDoor
open Go.RowKit Slices

theorem setT_yes {K X : KeyV} {op n till clock k : Int} (h : SetT K op n till clock k X) : k = 0 → Asked K op n ∧ From op (vg K.vs (n - 1).toNat).st ∧ (op = 7 → clock < till ∧ 1 ≤ till ∧ till ≤ 1099511627776) := by
  cases h with
  | arg _ => intro e; exact absurd e (by decide)
  | none _ _ => intro e; exact absurd e (by decide)
  | state _ _ _ => intro e; exact absurd e (by decide)
  | late _ _ _ _ => intro e; exact absurd e (by decide)
  | yes a b c d => exact fun _ => ⟨⟨a.1, a.2.1, a.2.2, b.1, b.2⟩, c, d⟩
theorem setT_state {K X : KeyV} {op n till clock k : Int} (h : SetT K op n till clock k X) : k = 11 → Asked K op n ∧ ¬ From op (vg K.vs (n - 1).toNat).st := by
  cases h with
  | arg _ => intro e; exact absurd e (by decide)
  | none _ _ => intro e; exact absurd e (by decide)
  | state a b c => exact fun _ => ⟨⟨a.1, a.2.1, a.2.2, b.1, b.2⟩, c⟩
  | late _ _ _ _ => intro e; exact absurd e (by decide)
  | yes _ _ _ _ => intro e; exact absurd e (by decide)
theorem keysOk : KeysOk where
  may := fun K A c w h few _ => pMay_any K A c w h few
  new_yes := fun id ten set S c l w m h hS hc => (pNew_yes id ten set S c l w m h hS hc).mono fun _ _ q => q.told
  set_yes := fun K op n till clock A c w h hs _ _ => by
    obtain ⟨q1, q2, q3⟩ := setT_yes hs rfl
    exact (pSet_yes K op n till clock A c w h q1 q2 q3).mono fun _ _ q => q.told
  set_state := fun K op n till clock A c w h hs _ _ => by
    obtain ⟨q1, q2⟩ := setT_state hs rfl
    exact pSet_state K op n till clock A c w h q1 q2
  find_yes := fun K n A c w h m h1 h2 => pFind_yes K n A c w h m h1 h2
  current_yes := fun K i A c w h m hi h1 hl => pCurrent_yes K i A c w h m hi h1 hl
end Go.Proofs.YtealebeacddbbaaDoor
