/- Contracts: a request's numbers, its body, by the document's own code. -/
import Derived.Test.YtidpihpddkfhgaaDoorAb
namespace Go.Proofs.YtidpihpddkfhgaaDoor
open Go.RowKit Slices Go.Proofs.YtidpihpddkfhgaaDoor.Bit

/-- integers in a block that is new -/
theorem ints_new (κ : IntKind) (t : TypeId) (w : World) (l : List Int) (g : Nat) (hg : g = w.heap.size) : Has κ (w.alloc (.cells (ints κ l).toArray t)) (w.alloc (.cells (ints κ l).toArray t)).heap.size (some ⟨g, 0, none⟩) l := fun k hk => by
  subst hg
  refine ⟨_, rfl, by simp, ?_⟩
  have e : (⟨w.heap.size, 0, none⟩ : Addr).add k = ⟨w.heap.size, k, none⟩ := by unfold Addr.add; split <;> simp_all
  rw [e, cell_of_row _ _ k _ _ _ (heap_alloc_new w (.cells (ints κ l).toArray t))]
  simp only [List.getElem?_toArray]
  exact ints_at hk
/-- bytes that a call made: as many as n, L -/
def Rw (w : World) (n : Nat) (L : List Int) (e : Ending) (w' : World) : Prop := ∃ A' c', e = .returned (.slice A' n c') ∧ w'.ownsRow w.heap.size 5 1 (.slice A' n c') n (ints .u8 L) ∧ Below w.heap.size w w'
theorem rw_of {w : World} {n : Nat} {L L' : List Int} {e : Ending} {w' : World} (hL : L = L') (hn : n = L'.length) (h : Res .u8 5 w L e w') : Rw w n L' e w' := by
  subst hL
  subst hn
  exact h
theorem two_len (x y z : Int) : (beL [x, y, z]).length = 24 := by rw [beL_len]; rfl

set_option maxRecDepth 100000 in
set_option maxHeartbeats 4000000 in
theorem numbers_any (x0 x1 x2 x3 x4 x5 x6 x7 x8 x9 x10 : Int) (s : ByteArray) (A1 A2 : Option Addr) (n1 c1 n2 c2 : Nat) (w : World) :
    Calls Tryd.prog 31 #[.agg #[.int .i64 x0, .int .i64 x1, .int .i64 x2, .int .i64 x3, .int .i64 x4, .int .i64 x5, .int .i64 x6, .int .i64 x7, .int .i64 x8, .int .i64 x9, .int .i64 x10, .string s, .slice A1 n1 c1, .slice A2 n2 c2]] w fun e w' => ∃ g, e = .returned (.slice (some ⟨g, 0, none⟩) 8 8) ∧ Has .i64 w' w'.heap.size (some ⟨g, 0, none⟩) [x3, x4, x5, x6, x7, x8, x9, x10] ∧ Below w.heap.size w w' := by
  go_enter Tryd.func31, Tryd.ntmps31
  go_wp2
  go_ret
  exact ⟨_, rfl, ints_new .i64 3 _ [x3, x4, x5, x6, x7, x8, x9, x10] _ (by simp), below_box _ _ _⟩

theorem below_new (w : World) (o : Obj) : Below w.heap.size w (w.alloc o) := (Below.refl _ _).alloc (Nat.le_refl _) _
theorem box_row (w : World) (cs : Array Value) (t : TypeId) (o : Obj) : ((w.alloc (.cells cs t)).alloc o).heap[w.heap.size]? = some (.cells cs t (0, 0)) :=
  (((Below.refl (w.heap.size + 1) (w.alloc (.cells cs t))).alloc (by simp) o).block _ (Nat.lt_succ_self _)).trans (heap_alloc_new w _)
theorem row_below {w w' : World} {g : Nat} {o : Obj} (h : w.heap[g]? = some o) (hb : Below w.heap.size w w') : w'.heap[g]? = some o := (hb.block g (Array.getElem?_eq_some_iff.1 h).1).trans h
theorem refNumber_nm (A A' : Option Addr) (c c' n m k : Nat) (b ns L : List Int) (w : World) (hn : n = b.length) (hm : m = ns.length) (hL : b ++ beL ns = L) (hk : k = L.length) (h : Has .u8 w w.heap.size A b) (hA : A = none → n = 0 ∧ c = 0) (h' : Has .i64 w w.heap.size A' ns) (hl : n ≤ 40000) (hl' : m ≤ 4000) :
    Calls Tryd.prog 44 #[.slice A n c, .slice A' m c'] w (Rw w k L) := by
  subst hn
  subst hm
  exact (refNumber_any A A' c c' b ns w h hA h' hl hl').mono fun _ _ q => rw_of hL hk q
theorem refText_nm (A : Option Addr) (c n k : Nat) (b L : List Int) (s : ByteArray) (w : World) (hn : n = b.length) (hL : b ++ be8 s.size ++ strNums s = L) (hk : k = L.length) (h : Has .u8 w w.heap.size A b) (hA : A = none → n = 0 ∧ c = 0) (hl : n ≤ 30000) (hs : s.size ≤ 4000) :
    Calls Tryd.prog 46 #[.slice A n c, .string s] w (Rw w k L) := by
  subst hn
  exact (refText_any A c b s w h hA hl hs).mono fun _ _ q => rw_of hL hk q
/-- two parts in a row of their own -/
theorem pair_has {w : World} {g c1 c2 n1 n2 : Nat} {A1 A2 : Option Addr} {l1 l2 : List Int} (hr : w.heap[g]? = some (.cells #[.slice A1 n1 c1, .slice A2 n2 c2] 22 (0, 0))) (e1 : n1 = l1.length) (e2 : n2 = l2.length) (h1 : Has .u8 w w.heap.size A1 l1) (h2 : Has .u8 w w.heap.size A2 l2) (k1 : A1 = none → n1 = 0 ∧ c1 = 0) (k2 : A2 = none → n2 = 0 ∧ c2 = 0) : HasP w w.heap.size (some ⟨g, 0, none⟩) [⟨A1, c1, l1⟩, ⟨A2, c2, l2⟩] := by
  subst e1
  subst e2
  have hlt : g < w.heap.size := (Array.getElem?_eq_some_iff.1 hr).1
  intro k hk
  have hk2 : k < 2 := hk
  have ea : ∀ j, (⟨g, 0, none⟩ : Addr).add j = ⟨g, j, none⟩ := fun j => by unfold Addr.add; split <;> simp_all
  rcases (show k = 0 ∨ k = 1 by omega) with rfl | rfl
  · exact ⟨⟨_, rfl, hlt, by rw [ea, cell_of_row _ _ 0 _ _ _ hr]; rfl⟩, h1, k1⟩
  · exact ⟨⟨_, rfl, hlt, by rw [ea, cell_of_row _ _ 1 _ _ _ hr]; rfl⟩, h2, k2⟩
theorem refBytes_nm (A A1 A2 : Option Addr) (c n k g c1 c2 _n1 _n2 : Nat) (b l1 l2 L : List Int) (w : World) (hn : n = b.length) (hL : b ++ partsB [l1, l2] = L) (hk : k = L.length) (h : Has .u8 w w.heap.size A b) (hA : A = none → n = 0 ∧ c = 0) (hp : HasP w w.heap.size (some ⟨g, 0, none⟩) [⟨A1, c1, l1⟩, ⟨A2, c2, l2⟩]) (hl : n ≤ 10000) (h1 : l1.length ≤ 4000) (h2 : l2.length ≤ 4000) :
    Calls Tryd.prog 45 #[.slice A n c, .slice (some ⟨g, 0, none⟩) 2 2] w (Rw w k L) := by
  subst hn
  exact (refBytes_any A (some ⟨g, 0, none⟩) c 2 b [⟨A1, c1, l1⟩, ⟨A2, c2, l2⟩] w h hA hp hl (Nat.le_of_ble_eq_true rfl) (fun k hk => by
    have hk2 : k < 2 := hk
    rcases (show k = 0 ∨ k = 1 by omega) with rfl | rfl
    · exact h1
    · exact h2)).mono fun _ _ q => rw_of hL hk q

set_option maxRecDepth 100000 in
set_option maxHeartbeats 600000 in
theorem laid_any (a : AskV) (A1 A2 : Option Addr) (c1 c2 : Nat) (w : World) (h : AskIn w w.heap.size a A1 c1 A2 c2) (h0 : a.name.size ≤ 4000) (h1 : a.bytes.length ≤ 4000) (h2 : a.token.length ≤ 4000) :
    Calls Tryd.prog 26 #[.agg (askVals a A1 c1 A2 c2)] w (Rw w (112 + a.name.size + a.bytes.length + a.token.length) (laidA a)) := by
  have HK : Hid (112 + a.name.size + a.bytes.length + a.token.length = (laidA a).length) := (laidA_len a).symm
  obtain ⟨x0, x1, x2, x3, x4, x5, x6, x7, x8, x9, x10, s, l1, l2⟩ := a
  have H := Lib.hid h
  clear h
  simp only [askVals] at h0 h1 h2 HK ⊢
  obtain ⟨L3, hL3⟩ : ∃ L3, L3 = laidA ⟨x0, x1, x2, x3, x4, x5, x6, x7, x8, x9, x10, s, l1, l2⟩ := ⟨_, rfl⟩
  obtain ⟨K, hK⟩ : ∃ K, K = 112 + s.size + l1.length + l2.length := ⟨_, rfl⟩
  rw [← hL3, ← hK] at HK
  rw [← hL3, ← hK]
  have HL3 := Lib.hid hL3
  obtain ⟨n1, hn1⟩ : ∃ n, n = l1.length := ⟨_, rfl⟩
  obtain ⟨n2, hn2⟩ : ∃ n, n = l2.length := ⟨_, rfl⟩
  rw [← hn1, ← hn2]
  rw [← hn1] at h1
  rw [← hn2] at h2
  have N1 := Lib.hid hn1
  have N2 := Lib.hid hn2
  clear hL3 hK hn1 hn2
  go_enter Tryd.func26, Tryd.ntmps26
  go_wp2_with fail
  refine (refNumber_nm none (some ⟨w.heap.size + 1, 0, none⟩) 0 3 0 3 24 [] [x0, x1, x2] (beL [x0, x1, x2]) _ rfl rfl rfl (two_len x0 x1 x2).symm (Has.nil _ _ _ _) (fun _ => ⟨rfl, rfl⟩) (by exact ints_new .i64 3 _ [x0, x1, x2] _ (by simp)) (by omega) (by omega)).mono ?_
  rintro e w1 ⟨B1, d1, rfl, ho, hb⟩
  have LW1 := Lib.hid (below_next (below_box w _ _) hb)
  have HO1 := Lib.hid ho
  have HR1 := Lib.hid (row_below (box_row w _ _ _) hb)
  clear ho hb
  go_wp2_with (refine wpList_load_row rfl 24 _ rfl w.heap.size rfl 24 _ (0, 0) _ HR1.out Tryd.underlying24 rfl (by kernel_rfl) ?_)
  refine (numbers_any x0 x1 x2 x3 x4 x5 x6 x7 x8 x9 x10 s A1 A2 n1 c1 n2 c2 w1).mono ?_
  rintro e w2 ⟨g2, rfl, hn, hb⟩
  have LW2 := Lib.hid (below_next LW1.out hb)
  have HO2 := Lib.hid (own_next HO1.out hb)
  have HR2 := Lib.hid (row_below HR1.out hb)
  have HN2 := Lib.hid hn
  clear hn hb HO1 HR1 LW1
  go_wp2_with fail
  refine (refNumber_nm B1 (some ⟨g2, 0, none⟩) d1 8 24 8 88 (beL [x0, x1, x2]) [x3, x4, x5, x6, x7, x8, x9, x10] (beL [x0, x1, x2, x3, x4, x5, x6, x7, x8, x9, x10]) w2 (two_len x0 x1 x2).symm rfl (beL_app [x0, x1, x2] [x3, x4, x5, x6, x7, x8, x9, x10]).symm (by rw [beL_len]; rfl) (own_readn (two_len x0 x1 x2).symm HO2.out) (own_none HO2.out) HN2.out (by omega) (by omega)).mono ?_
  rintro e w3 ⟨B3, d3, rfl, ho, hb⟩
  have LW3 := Lib.hid (below_next LW2.out hb)
  have HO3 := Lib.hid ho
  have HR3 := Lib.hid (row_below HR2.out hb)
  clear ho hb HO2 HR2 LW2 HN2
  obtain ⟨M3, hM3⟩ : ∃ M3, M3 = beL [x0, x1, x2, x3, x4, x5, x6, x7, x8, x9, x10] := ⟨_, rfl⟩
  have T1 : Hid (88 = M3.length) := by show 88 = M3.length; rw [hM3, beL_len]; rfl
  obtain ⟨M4, hM4⟩ : ∃ M4, M4 = M3 ++ be8 s.size ++ strNums s := ⟨_, rfl⟩
  have T2 : Hid (M3 ++ be8 s.size ++ strNums s = M4) := hM4.symm
  obtain ⟨m4, hm4⟩ : ∃ m, m = M4.length := ⟨_, rfl⟩
  have T3 : Hid (m4 = M4.length) := hm4
  have T4 : m4 ≤ 10000 := by rw [hm4, hM4, List.length_append, List.length_append, be8_len, strNums_len, ← T1.out]; omega
  have T5 : Hid (M4 ++ partsB [l1, l2] = L3) := by
    show _ = L3
    rw [HL3.out, hM4, hM3]
    unfold laidA
    simp only [List.append_assoc]
    rfl
  rw [← hM3] at HO3
  have HF : Hid (∀ W, Below w3.heap.size w3 W → Below w3.heap.size w3 W ∧ W.cell? ⟨w.heap.size, 11, none⟩ = some (.string s) ∧ W.cell? ⟨w.heap.size, 12, none⟩ = some (.slice A1 n1 c1) ∧ W.cell? ⟨w.heap.size, 13, none⟩ = some (.slice A2 n2 c2)) := fun W hb =>
    ⟨hb, cell_of_row _ _ 11 _ _ _ (row_below HR3.out hb), cell_of_row _ _ 12 _ _ _ (row_below HR3.out hb), cell_of_row _ _ 13 _ _ _ (row_below HR3.out hb)⟩
  have D0 : Hid (Below w3.heap.size w3 w3.drew) := (Below.refl _ _).drew
  have D1 : Hid (Below w3.heap.size w3 (w3.alloc (.cells #[.slice A1 n1 c1, .slice A2 n2 c2] 22)).drew) := ((Below.refl _ _).alloc (Nat.le_refl _) _).drew
  have D2 : Hid ((w3.alloc (.cells #[.slice A1 n1 c1, .slice A2 n2 c2] 22)).drew.heap[w3.heap.size]? = some (.cells #[.slice A1 n1 c1, .slice A2 n2 c2] 22 (0, 0))) := heap_alloc_new w3 _
  have U88 : Hid (88 ≤ 30000) := Nat.le_of_ble_eq_true rfl
  have TH : Hid (∀ W, Below w3.heap.size w3 W → Has .u8 W W.heap.size B3 M3) := fun W hb => has_next (own_readn T1.out HO3.out) hb
  have TN : Hid (B3 = none → 88 = 0 ∧ d3 = 0) := fun e => own_none HO3.out e
  have HI : Hid (∀ W, Below w3.heap.size w3 W → Has .u8 W W.heap.size A1 l1 ∧ Has .u8 W W.heap.size A2 l2) := fun W hb => ⟨has_next H.out.hb (below_next LW3.out hb), has_next H.out.ht (below_next LW3.out hb)⟩
  have HI2 : Hid ((A1 = none → n1 = 0 ∧ c1 = 0) ∧ (A2 = none → n2 = 0 ∧ c2 = 0)) := ⟨fun e => by rw [N1.out]; exact H.out.nb e, fun e => by rw [N2.out]; exact H.out.nt e⟩
  have HI3 : Hid (l1.length ≤ 4000 ∧ l2.length ≤ 4000) := ⟨by rw [← N1.out]; exact h1, by rw [← N2.out]; exact h2⟩
  obtain ⟨s0, s1, s2, s3⟩ := HF.out _ (Below.refl _ _)
  clear hM3 hM4 hm4
  go_wp2
  go_region_held3 (fun W => Below w3.heap.size w3 W ∧ W.cell? ⟨w.heap.size, 11, none⟩ = some (.string s) ∧ W.cell? ⟨w.heap.size, 12, none⟩ = some (.slice A1 n1 c1) ∧ W.cell? ⟨w.heap.size, 13, none⟩ = some (.slice A2 n2 c2))
    (first
      | (refine HF.out _ ?_; repeat (first | assumption | exact Below.refl _ _ | refine Below.drew ?_ | refine Below.alloc ?_ (by first | exact Nat.le_refl _ | assumption | (simp; omega)) _)))
    (first
      | (go_at_call 46; (with_reducible refine (refText_nm B3 d3 88 m4 M3 M4 s _ T1.out T2.out T3.out (TH.out _ D0.out) TN.out U88.out h0).mono ?_); rintro e w4 ⟨B4, d4, rfl, ho, hb⟩; have hb4 := below_next D0.out hb; have hs4 := hb4.size; have HO4 := Lib.hid ho; clear ho hb)
      | (go_at_call 46; (with_reducible refine (refText_nm B3 d3 88 m4 M3 M4 s _ T1.out T2.out T3.out (TH.out _ D1.out) TN.out U88.out h0).mono ?_); rintro e w4 ⟨B4, d4, rfl, ho, hb⟩; have hb4 := below_next D1.out hb; have hs4 := hb4.size; have HO4 := Lib.hid ho; have HP4 := Lib.hid (row_below D2.out hb); clear ho hb)
      | (go_at_call 45; (with_reducible refine (refBytes_nm B4 A1 A2 d4 m4 K w4.heap.size c1 c2 n1 n2 M4 l1 l2 L3 _ T3.out T5.out HK.out (has_next (own_readn T3.out HO4.out) (below_new w4 _)) (own_none HO4.out) (pair_has (heap_alloc_new w4 _) N1.out N2.out (HI.out _ (hb4.alloc hs4 _)).1 (HI.out _ (hb4.alloc hs4 _)).2 HI2.out.1 HI2.out.2) T4 HI3.out.1 HI3.out.2).mono ?_); rintro e w5 ⟨B5, d5, rfl, ho, hb⟩; have hb5 := below_next (hb4.alloc hs4 _) hb; have HO5 := Lib.hid (own_down ho (show w3.heap.size ≤ _ from Nat.le_trans hs4 (below_new w4 _).size)); clear ho hb)
      | (go_at_call 45; (with_reducible refine (refBytes_nm B4 A1 A2 d4 m4 K w3.heap.size c1 c2 n1 n2 M4 l1 l2 L3 w4 T3.out T5.out HK.out (own_readn T3.out HO4.out) (own_none HO4.out) (pair_has HP4.out N1.out N2.out (HI.out _ hb4).1 (HI.out _ hb4).2 HI2.out.1 HI2.out.2) T4 HI3.out.1 HI3.out.2).mono ?_); rintro e w5 ⟨B5, d5, rfl, ho, hb⟩; have hb5 := below_next hb4 hb; have HO5 := Lib.hid (own_down ho hs4); clear ho hb))
  all_goals
    go_wp2
    go_ret
    exact ⟨B5, d5, rfl, own_down HO5.out LW3.out.size, below_next LW3.out hb5⟩
end Go.Proofs.YtidpihpddkfhgaaDoor
