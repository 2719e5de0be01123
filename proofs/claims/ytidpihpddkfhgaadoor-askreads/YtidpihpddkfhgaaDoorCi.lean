/- Contract: a text as bytes behind bytes, by the document's own code. -/
import Derived.Test.YtidpihpddkfhgaaDoorCc
import Derived.Lib.AppendStr
namespace Go.Proofs.YtidpihpddkfhgaaDoor
open Go.RowKit Slices Go.Proofs.YtidpihpddkfhgaaDoor.Bit

theorem own_down {t : TypeId} {w : World} {B B' n : Nat} {v : Value} {xs : List Value} (h : w.ownsRow B t 1 v n xs) (hB : B' ≤ B) : w.ownsRow B' t 1 v n xs := by
  refine ⟨h.1, ?_⟩
  rcases h.2 with h' | ⟨g, c, cur, hv, hb, hr⟩
  · exact .inl h'
  · exact .inr ⟨g, c, cur, hv, Nat.le_trans hB hb, hr⟩
/-- a text's bytes as numbers -/
def strNums (s : ByteArray) : List Int := s.data.toList.map fun b => (b.toNat : Int)
theorem strNums_len (s : ByteArray) : (strNums s).length = s.size := by
  unfold strNums
  rw [List.length_map, Array.length_toList]; rfl
theorem strNums_cells (s : ByteArray) : Lib.strCells s = ints .u8 (strNums s) := by
  unfold Lib.strCells strNums ints
  rw [List.map_map]; rfl
theorem one_has (w : World) (x : Int) : Has .i64 (w.alloc (.cells #[.int .i64 x] 3)) (w.alloc (.cells #[.int .i64 x] 3)).heap.size (some ⟨w.heap.size, 0, none⟩) [x] := fun k hk => by
  have e : k = 0 := by simp at hk; omega
  subst e
  refine ⟨_, rfl, by simp, ?_⟩
  rw [show (⟨w.heap.size, 0, none⟩ : Addr).add 0 = ⟨w.heap.size, 0, none⟩ by unfold Addr.add; simp]
  simp

set_option maxRecDepth 100000 in
set_option maxHeartbeats 2000000 in
theorem refText_any (A : Option Addr) (c : Nat) (b : List Int) (s : ByteArray) (w : World) (h : Has .u8 w w.heap.size A b) (hA : A = none → b.length = 0 ∧ c = 0) (hl : b.length ≤ 30000) (hs : s.size ≤ 4000) :
    Calls Tryd.prog 46 #[.slice A b.length c, .string s] w (Res .u8 5 w (b ++ be8 s.size ++ strNums s)) := by
  obtain ⟨i0, hi0, hz0, hz1, hz2⟩ := info_parts Tryd.info5
  have HB0 : Hid (Below w.heap.size w (w.alloc (.cells #[.int .i64 (s.size : Int)] 3))) := (Below.refl _ _).alloc (Nat.le_refl _) _
  have H := Lib.hid h
  have HA := Lib.hid hA
  have HLN : Hid ((b ++ beL [(s.size : Int)]).length = b.length + 8) := by show List.length _ = _; rw [List.length_append, beL_one, be8_len]
  clear h hA
  go_enter Tryd.func46, Tryd.ntmps46
  go_wp2_with fail
  refine (refNumber_any A (some ⟨w.heap.size, 0, none⟩) c 1 b [(s.size : Int)] (w.alloc (.cells #[.int .i64 (s.size : Int)] 3)) (has_next H.out HB0.out) HA.out (one_has w s.size) (by omega) (by simp)).mono ?_
  rintro e w1 ⟨A1, c1, rfl, ho, hb⟩
  obtain ⟨L, hL⟩ : ∃ L, L = (b ++ beL [(s.size : Int)]).length := ⟨_, rfl⟩
  rw [← hL] at ho ⊢
  have HLL : Hid (L = b.length + 8) := by show L = _; rw [hL]; exact HLN.out
  have HO := Lib.hid (own_down ho HB0.out.size)
  clear hL
  have HB := Lib.hid (below_next HB0.out hb)
  clear ho hb
  go_wp2_with (at_builtin; (refine Lib.wpList_append_own_string w1 rfl _ _ 22 9 rfl w.heap.size 5 i0 Tryd.underlying22 Tryd.underlying9 hi0 hz0 hz1 hz2 _ _ _ rfl HO.out s rfl (by have := HLL.out; unfold maxLen; omega) (by have := HLL.out; omega) HB.out.size ?_); intro v2 w2 hown hgr hnil; clear hnil; have hb2 : Below w.heap.size w w2 := HB.out.grown hgr HB.out.size (fun q hq => (HO.out.lt q hq).1); have O2 := Lib.hid hown; have B2 := Lib.hid hb2; clear hown hgr hb2)
  go_ret
  have q := O2.out
  rw [strNums_cells, ← ints_app, beL_one] at q
  exact res_of q B2.out
end Go.Proofs.YtidpihpddkfhgaaDoor
