/- What is asked of the program's functions, proved. -/
import Derived.Test.YtjpmglnhnfnmnaaDoorOc
import Derived.Test.YtjpmglnhnfnmnaaDoorOe
namespace Go.Proofs.YtjpmglnhnfnmnaaDoor
open Go.RowKit Slices
theorem tenantsOk : TenantsOk := ⟨pMay_any, pAdd_any, pPath_any, fun A n c l a b w h _ hb => pAbove_any A n c l a b w h hb⟩
end Go.Proofs.YtjpmglnhnfnmnaaDoor
