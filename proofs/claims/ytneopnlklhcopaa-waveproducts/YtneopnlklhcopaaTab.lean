/- The program's tables: there are none. -/
import Derived.Test.YtneopnlklhcopaaBa
namespace Go.Proofs.Ytneopnlklhcopaa
open Go.RowKit Slices Go.Proofs.Ytneopnlklhcopaa.Ring

def Tab (_ : World) : Prop := True
theorem Tab.next {w w' : World} (_ : Tab w) (_ : Below w.heap.size w w') : Tab w' := trivial
theorem Tab.drewN {w : World} (_ : Tab w) (n : Nat) : Tab (w.drewN n) := trivial
end Go.Proofs.Ytneopnlklhcopaa
