/- Contract: the program's sums of products, of any lists. -/
import Derived.Test.YtneopnlklhcopaaV
namespace Go.Proofs.Ytneopnlklhcopaa
open Go.RowKit Slices Go.Proofs.Ytneopnlklhcopaa.Ring

theorem pDot_res (A A' : Option Addr) (c c' : Nat) (es ds : List Ent) (w : World) (h : HasL w w.heap.size A es) (h' : HasL w w.heap.size A' ds) (hn : es.length ≤ 300) (hm : ds.length ≤ 300)
    (_hle : ∀ i (h : i < es.length), es[i].l.length ≤ 300) (_hld : ∀ i (h : i < ds.length), ds[i].l.length ≤ 300) :
    Calls Try.prog 34 #[.slice A es.length c, .slice A' ds.length c'] w (Res w (dotL (nums es) (nums ds))) := pDot_any A A' c c' es ds w h h' hn hm
end Go.Proofs.Ytneopnlklhcopaa
