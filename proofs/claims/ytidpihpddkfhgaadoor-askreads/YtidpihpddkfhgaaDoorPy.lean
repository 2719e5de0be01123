/- Several texts in one: Pf, Pg. -/
import Derived.Test.YtidpihpddkfhgaaDoorPx
import Derived.Test.YtidpihpddkfhgaaDoorOy
import Derived.Test.YtidpihpddkfhgaaDoorAi
/- Contracts: the landed code's bodyOf and Body. -/
namespace Go.Proofs.YtidpihpddkfhgaaDoor
open Go.RowKit Slices Go.Proofs.YtidpihpddkfhgaaDoor.Bit

theorem isF_next {c : Int} {v : Value} {w w' : World} (h : IsF c v w) (hb : Below w.heap.size w w') : IsF c v w' := by
  rcases h with h | ⟨h0, p, hv, hc⟩
  · exact .inl h
  · exact .inr ⟨h0, p, hv, cell_below hc hb⟩
/-- what bodyOf answers -/
def BodyF (a : AskV) (w : World) (e : Ending) (w' : World) : Prop :=
  ∃ A' n' c' v, e = .returned (.tuple #[.slice A' n' c', v]) ∧ Below w.heap.size w w' ∧
    ((MayA a ∧ v = .nilIface ∧ n' = (laidA a).length ∧ w'.ownsRow w.heap.size 5 1 (.slice A' n' c') n' (ints .u8 (laidA a))) ∨ (¬ MayA a ∧ IsF 2 v w' ∧ n' = 0))
theorem number_nm (X : Option Addr) (cx : Nat) (ns : List Int) (W : World) (hn : ns.length = 11) (h : Has .i64 W W.heap.size X ns) :
    Calls Tryd.prog 43 #[.slice none 0 0, .slice X 11 cx] W (Rw W 88 (beL ns)) :=
  (number_any none X 0 0 11 cx [] ns W (Has.nil _ _ _ _) rfl (fun _ => ⟨rfl, rfl⟩) (by omega) hn.symm h (by omega)).mono fun _ _ q => rw_of (List.nil_append _) (by rw [beL_len, hn]) q
theorem text_nm (A : Option Addr) (c n k : Nat) (b L : List Int) (s : ByteArray) (w : World) (hn : n = b.length) (hL : b ++ be8 s.size ++ strNums s = L) (hk : k = L.length) (h : Has .u8 w w.heap.size A b) (hA : A = none → n = 0 ∧ c = 0) (hl : n ≤ 10000) (hs : s.size ≤ 4000) :
    Calls Tryd.prog 42 #[.slice A n c, .string s] w (Rw w k L) :=
  (text_any A n c b s w h hn hA hl hs).mono fun _ _ q => rw_of hL hk q
theorem bytes_nm (A A1 A2 : Option Addr) (c n k g c1 c2 : Nat) (b l1 l2 L : List Int) (w : World) (hn : n = b.length) (hL : b ++ partsB [l1, l2] = L) (hk : k = L.length) (h : Has .u8 w w.heap.size A b) (hA : A = none → n = 0 ∧ c = 0) (hp : HasP w w.heap.size (some ⟨g, 0, none⟩) [⟨A1, c1, l1⟩, ⟨A2, c2, l2⟩]) (hl : n ≤ 10000) (h1 : l1.length ≤ 4000) (h2 : l2.length ≤ 4000) :
    Calls Tryd.prog 41 #[.slice A n c, .slice (some ⟨g, 0, none⟩) 2 2] w (Rw w k L) :=
  (bytes_any A (some ⟨g, 0, none⟩) n c 2 2 b [⟨A1, c1, l1⟩, ⟨A2, c2, l2⟩] w h hn hA hl rfl hp (Nat.le_of_ble_eq_true rfl) (fun k hk => by
    have hk2 : k < 2 := hk
    rcases (show k = 0 ∨ k = 1 by omega) with rfl | rfl
    · exact h1
    · exact h2)).mono fun _ _ q => rw_of hL hk q

set_option maxRecDepth 100000 in
set_option maxHeartbeats 4000000 in
theorem bodyOf_yes (a : AskV) (A1 A2 : Option Addr) (c1 c2 : Nat) (w : World) (h : AskIn w w.heap.size a A1 c1 A2 c2) (m : MayA a) :
    Calls Tryd.prog 24 #[.agg (askVals a A1 c1 A2 c2)] w fun e w' => ∃ A' c', e = .returned (.tuple #[.slice A' (112 + a.name.size + a.bytes.length + a.token.length) c', .nilIface]) ∧ w'.ownsRow w.heap.size 5 1 (.slice A' (112 + a.name.size + a.bytes.length + a.token.length) c') (112 + a.name.size + a.bytes.length + a.token.length) (ints .u8 (laidA a)) ∧ Below w.heap.size w w' := by
  have HK : Hid (112 + a.name.size + a.bytes.length + a.token.length = (laidA a).length) := (laidA_len a).symm
  have HIz : Hid ((Tryd.prog.info? 24).map (·.size) = some 14) := by show _ = _; kernel_rfl
  obtain ⟨h0, h1, h2⟩ := may_small m
  have HM : Hid (decide (MayA a) = true) := decide_eq_true m
  have H := Lib.hid h
  have HMV : Hid (∀ W, Calls Tryd.prog 12 #[.agg (askVals a A1 c1 A2 c2)] W fun e w' => e = .returned (.bool true) ∧ Below W.heap.size W w') := fun W => by rw [← HM.out]; exact mayP_any a A1 A2 c1 c2 W
  have HV : Hid (∀ W, Calls Tryd.prog 33 #[.agg (askVals a A1 c1 A2 c2)] W fun e w' => ∃ A c, e = .returned (.slice A 11 c) ∧ w'.ownsRow W.heap.size 3 1 (.slice A 11 c) 11 (ints .i64 (numsA a)) ∧ Below W.heap.size W w') := fun W => valuesOf_any a A1 A2 c1 c2 W
  have HRb : Hid (∀ w' : World, Below (w.alloc (.cells (askVals a A1 c1 A2 c2) 24)).heap.size (w.alloc (.cells (askVals a A1 c1 A2 c2) 24)) w' → w'.heap[w.heap.size]? = some (.cells (askVals a A1 c1 A2 c2) 24 (0, 0))) := fun w' hb => row_below (heap_alloc_new w _) hb
  have HVs : Hid (some (askVals a A1 c1 A2 c2).size = some 14) := rfl
  obtain ⟨V, hV⟩ : ∃ V, V = askVals a A1 c1 A2 c2 := ⟨_, rfl⟩
  rw [← hV] at HMV HV HRb HVs
  rw [← hV]
  have HQV := Lib.hid hV
  obtain ⟨L3, hL3⟩ : ∃ L3, L3 = laidA a := ⟨_, rfl⟩
  obtain ⟨K, hK⟩ : ∃ K, K = 112 + a.name.size + a.bytes.length + a.token.length := ⟨_, rfl⟩
  rw [← hL3, ← hK] at HK
  rw [← hL3, ← hK]
  have HL3 := Lib.hid hL3
  clear hV hL3 hK h m HM
  go_enter Tryd.func24, Tryd.ntmps24
  go_wp2_with (refine wpList_load_row rfl 24 _ rfl w.heap.size rfl 24 _ (0, 0) _ (heap_alloc_new w _) Tryd.underlying24 rfl (by rw [HVs.out]; exact HIz.out) ?_)
  refine (HMV.out _).mono ?_
  rintro e w1 ⟨rfl, hb⟩
  have HR1 := Lib.hid (HRb.out _ hb)
  have LW1 := Lib.hid (below_next (below_new w _) hb)
  clear hb HRb HMV
  go_wp2_with fail
  refine (unless_yes 2 _ _).mono ?_
  rintro e W0 ⟨rfl, rfl⟩
  obtain ⟨ga, hga⟩ : ∃ ga, ga = w.heap.size := ⟨_, rfl⟩
  rw [← hga] at HR1
  rw [← hga]
  clear hga
  obtain ⟨n1, hn1⟩ : ∃ n, n = a.bytes.length := ⟨_, rfl⟩
  obtain ⟨n2, hn2⟩ : ∃ n, n = a.token.length := ⟨_, rfl⟩
  have hVL : V = #[.int .i64 a.who, .int .i64 a.nonce, .int .i64 a.op, .int .i64 a.tenant, .int .i64 a.key, .int .i64 a.version, .int .i64 a.set, .int .i64 a.grant, .int .i64 a.to, .int .i64 a.ops, .int .i64 a.till, .string a.name, .slice A1 n1 c1, .slice A2 n2 c2] := by rw [HQV.out, hn1, hn2]; rfl
  have N1 := Lib.hid hn1
  have N2 := Lib.hid hn2
  rw [hVL] at HV HR1 ⊢
  obtain ⟨M3, hM3⟩ : ∃ M3, M3 = beL (numsA a) := ⟨_, rfl⟩
  have T1 : Hid (88 = M3.length) := by show 88 = M3.length; rw [hM3, beL_len]; rfl
  obtain ⟨M4, hM4⟩ : ∃ M4, M4 = M3 ++ be8 a.name.size ++ strNums a.name := ⟨_, rfl⟩
  have T2 : Hid (M3 ++ be8 a.name.size ++ strNums a.name = M4) := hM4.symm
  obtain ⟨m4, hm4⟩ : ∃ m, m = M4.length := ⟨_, rfl⟩
  have T3 : Hid (m4 = M4.length) := hm4
  have T4 : m4 ≤ 10000 := by rw [hm4, hM4, List.length_append, List.length_append, be8_len, strNums_len, ← T1.out]; omega
  have T5 : Hid (M4 ++ partsB [a.bytes, a.token] = L3) := by
    show _ = L3
    rw [HL3.out, hM4, hM3]
    unfold laidA
    simp only [List.append_assoc]
  have CN : Hid (∀ (X : Option Addr) (cx : Nat) (W : World), Has .i64 W W.heap.size X (numsA a) → Calls Tryd.prog 43 #[.slice none 0 0, .slice X 11 cx] W (Rw W 88 M3)) := fun X cx W hx => by rw [hM3]; exact number_nm X cx (numsA a) W rfl hx
  have CT : Hid (∀ (B : Option Addr) (d : Nat) (W : World), Has .u8 W W.heap.size B M3 → (B = none → 88 = 0 ∧ d = 0) → Calls Tryd.prog 42 #[.slice B 88 d, .string a.name] W (Rw W m4 M4)) := fun B d W hx hn => text_nm B d 88 m4 M3 M4 a.name W T1.out T2.out T3.out hx hn (Nat.le_of_ble_eq_true rfl) h0
  have CB : Hid (∀ (B : Option Addr) (d g : Nat) (W : World), Has .u8 W W.heap.size B M4 → (B = none → m4 = 0 ∧ d = 0) → HasP W W.heap.size (some ⟨g, 0, none⟩) [⟨A1, c1, a.bytes⟩, ⟨A2, c2, a.token⟩] → Calls Tryd.prog 41 #[.slice B m4 d, .slice (some ⟨g, 0, none⟩) 2 2] W (Rw W K L3)) := fun B d g W hx hn hp => bytes_nm B A1 A2 d m4 K g c1 c2 M4 a.bytes a.token L3 W T3.out T5.out HK.out hx hn hp T4 h1 h2
  have HI : Hid (∀ W, Below w1.heap.size w1 W → Has .u8 W W.heap.size A1 a.bytes ∧ Has .u8 W W.heap.size A2 a.token) := fun W hb => ⟨has_next H.out.hb (below_next LW1.out hb), has_next H.out.ht (below_next LW1.out hb)⟩
  have HI2 : Hid ((A1 = none → n1 = 0 ∧ c1 = 0) ∧ (A2 = none → n2 = 0 ∧ c2 = 0)) := ⟨fun e => by rw [N1.out]; exact H.out.nb e, fun e => by rw [N2.out]; exact H.out.nt e⟩
  have HPR : Hid (∀ (g : Nat) (W : World), Below w1.heap.size w1 W → W.heap[g]? = some (.cells #[.slice A1 n1 c1, .slice A2 n2 c2] 22 (0, 0)) → HasP W W.heap.size (some ⟨g, 0, none⟩) [⟨A1, c1, a.bytes⟩, ⟨A2, c2, a.token⟩]) := fun g W hb hr => pair_has hr N1.out N2.out (HI.out W hb).1 (HI.out W hb).2 HI2.out.1 HI2.out.2
  have HF : Hid (∀ W, Below w1.heap.size w1 W → Below w1.heap.size w1 W ∧ W.cell? ⟨ga, 0, none⟩ = some (.int .i64 a.who) ∧ W.cell? ⟨ga, 1, none⟩ = some (.int .i64 a.nonce) ∧ W.cell? ⟨ga, 2, none⟩ = some (.int .i64 a.op) ∧ W.cell? ⟨ga, 3, none⟩ = some (.int .i64 a.tenant) ∧ W.cell? ⟨ga, 4, none⟩ = some (.int .i64 a.key) ∧ W.cell? ⟨ga, 5, none⟩ = some (.int .i64 a.version) ∧ W.cell? ⟨ga, 6, none⟩ = some (.int .i64 a.set) ∧ W.cell? ⟨ga, 7, none⟩ = some (.int .i64 a.grant) ∧ W.cell? ⟨ga, 8, none⟩ = some (.int .i64 a.to) ∧ W.cell? ⟨ga, 9, none⟩ = some (.int .i64 a.ops) ∧ W.cell? ⟨ga, 10, none⟩ = some (.int .i64 a.till) ∧ W.cell? ⟨ga, 11, none⟩ = some (.string a.name) ∧ W.cell? ⟨ga, 12, none⟩ = some (.slice A1 n1 c1) ∧ W.cell? ⟨ga, 13, none⟩ = some (.slice A2 n2 c2)) := fun W hb => ⟨hb, cell_of_row _ _ 0 _ _ _ (row_below HR1.out hb), cell_of_row _ _ 1 _ _ _ (row_below HR1.out hb), cell_of_row _ _ 2 _ _ _ (row_below HR1.out hb), cell_of_row _ _ 3 _ _ _ (row_below HR1.out hb), cell_of_row _ _ 4 _ _ _ (row_below HR1.out hb), cell_of_row _ _ 5 _ _ _ (row_below HR1.out hb), cell_of_row _ _ 6 _ _ _ (row_below HR1.out hb), cell_of_row _ _ 7 _ _ _ (row_below HR1.out hb), cell_of_row _ _ 8 _ _ _ (row_below HR1.out hb), cell_of_row _ _ 9 _ _ _ (row_below HR1.out hb), cell_of_row _ _ 10 _ _ _ (row_below HR1.out hb), cell_of_row _ _ 11 _ _ _ (row_below HR1.out hb), cell_of_row _ _ 12 _ _ _ (row_below HR1.out hb), cell_of_row _ _ 13 _ _ _ (row_below HR1.out hb)⟩
  obtain ⟨_, p0, p1, p2, p3, p4, p5, p6, p7, p8, p9, p10, p11, p12, p13⟩ := HF.out _ (Below.refl _ _)
  have D0 : Below w1.heap.size w1 w1.drew := (Below.refl _ _).drew
  have D1 : Below w1.heap.size w1 (w1.alloc (.cells #[.slice A1 n1 c1, .slice A2 n2 c2] 22)).drew := ((Below.refl _ _).alloc (Nat.le_refl _) _).drew
  have HP0 : Hid ((w1.alloc (.cells #[.slice A1 n1 c1, .slice A2 n2 c2] 22)).drew.heap[w1.heap.size]? = some (.cells #[.slice A1 n1 c1, .slice A2 n2 c2] 22 (0, 0))) := heap_alloc_new w1 _
  clear hVL hM3 hM4 hm4 hn1 hn2
  go_wp2
  go_region_held3 (fun W => Below w1.heap.size w1 W ∧ W.cell? ⟨ga, 0, none⟩ = some (.int .i64 a.who) ∧ W.cell? ⟨ga, 1, none⟩ = some (.int .i64 a.nonce) ∧ W.cell? ⟨ga, 2, none⟩ = some (.int .i64 a.op) ∧ W.cell? ⟨ga, 3, none⟩ = some (.int .i64 a.tenant) ∧ W.cell? ⟨ga, 4, none⟩ = some (.int .i64 a.key) ∧ W.cell? ⟨ga, 5, none⟩ = some (.int .i64 a.version) ∧ W.cell? ⟨ga, 6, none⟩ = some (.int .i64 a.set) ∧ W.cell? ⟨ga, 7, none⟩ = some (.int .i64 a.grant) ∧ W.cell? ⟨ga, 8, none⟩ = some (.int .i64 a.to) ∧ W.cell? ⟨ga, 9, none⟩ = some (.int .i64 a.ops) ∧ W.cell? ⟨ga, 10, none⟩ = some (.int .i64 a.till) ∧ W.cell? ⟨ga, 11, none⟩ = some (.string a.name) ∧ W.cell? ⟨ga, 12, none⟩ = some (.slice A1 n1 c1) ∧ W.cell? ⟨ga, 13, none⟩ = some (.slice A2 n2 c2))
    (first
      | (refine HF.out _ ?_; repeat (first | assumption | exact Below.refl _ _ | refine Below.drew ?_ | refine Below.alloc ?_ (by first | exact Nat.le_refl _ | assumption) _)))
    (first
      | (go_at_call 33; refine (HV.out w1.drew).mono ?_; rintro e w2 ⟨X, cx, rfl, ho, hb⟩; have hb2 := below_next D0 hb; have hs2 := hb2.size; have HX := Lib.hid ho; clear ho hb)
      | (go_at_call 33; refine (HV.out (w1.alloc (.cells #[.slice A1 n1 c1, .slice A2 n2 c2] 22)).drew).mono ?_; rintro e w2 ⟨X, cx, rfl, ho, hb⟩; have hb2 := below_next D1 hb; have hs2 := hb2.size; have HX := Lib.hid ho; have HP2 := Lib.hid (row_below HP0.out hb); clear ho hb)
      | (go_at_call 43; (with_reducible refine (CN.out _ _ w2 (own_readn rfl HX.out)).mono ?_); rintro e w3 ⟨B3, d3, rfl, ho, hb⟩; have hb3 := below_next hb2 hb; have hs3 := hb3.size; have HO3 := Lib.hid ho; (first | have HP3 := Lib.hid (row_below HP2.out hb) | skip); clear ho hb)
      | (go_at_call 43; (with_reducible refine (CN.out _ _ (w2.alloc _) (has_next (own_readn rfl HX.out) (below_new w2 _))).mono ?_); rintro e w3 ⟨B3, d3, rfl, ho, hb⟩; have hb3 := below_next (hb2.alloc hs2 _) hb; have hs3 := hb3.size; have HO3 := Lib.hid ho; have HP3 := Lib.hid (row_below (heap_alloc_new w2 _) hb); clear ho hb)
      | (go_at_call 42; (with_reducible refine (CT.out _ _ w3 (own_readn T1.out HO3.out) (own_none HO3.out)).mono ?_); rintro e w4 ⟨B4, d4, rfl, ho, hb⟩; have hb4 := below_next hb3 hb; have hs4 := hb4.size; have HO4 := Lib.hid ho; (first | have HP4 := Lib.hid (row_below HP3.out hb) | skip); clear ho hb)
      | (go_at_call 42; (with_reducible refine (CT.out _ _ (w3.alloc _) (has_next (own_readn T1.out HO3.out) (below_new w3 _)) (own_none HO3.out)).mono ?_); rintro e w4 ⟨B4, d4, rfl, ho, hb⟩; have hb4 := below_next (hb3.alloc hs3 _) hb; have hs4 := hb4.size; have HO4 := Lib.hid ho; have HP4 := Lib.hid (row_below (heap_alloc_new w3 _) hb); clear ho hb)
      | (go_at_call 41; (with_reducible refine (CB.out _ _ _ w4 (own_readn T3.out HO4.out) (own_none HO4.out) (HPR.out _ w4 hb4 HP4.out)).mono ?_); rintro e w5 ⟨B5, d5, rfl, ho, hb⟩; have hb5 := below_next hb4 hb; have HO5 := Lib.hid (own_down ho hs4); clear ho hb)
      | (go_at_call 41; (with_reducible refine (CB.out _ _ _ (w4.alloc _) (has_next (own_readn T3.out HO4.out) (below_new w4 _)) (own_none HO4.out) (HPR.out _ (w4.alloc _) (hb4.alloc hs4 _) (heap_alloc_new w4 _))).mono ?_); rintro e w5 ⟨B5, d5, rfl, ho, hb⟩; have hb5 := below_next (hb4.alloc hs4 _) hb; have HO5 := Lib.hid (own_down ho (show w1.heap.size ≤ _ from Nat.le_trans hs4 (below_new w4 _).size)); clear ho hb))
  all_goals
    go_wp2
    go_ret2
    exact ⟨B5, d5, rfl, own_down HO5.out LW1.out.size, below_next LW1.out hb5⟩
end Go.Proofs.YtidpihpddkfhgaaDoor

/- Contract: the landed code's Body. -/
namespace Go.Proofs.YtidpihpddkfhgaaDoor
open Go.RowKit Slices Go.Proofs.YtidpihpddkfhgaaDoor.Bit

set_option maxRecDepth 100000 in
set_option maxHeartbeats 4000000 in
theorem bodyOf_no (a : AskV) (A1 A2 : Option Addr) (c1 c2 : Nat) (w : World) (m : ¬ MayA a) :
    Calls Tryd.prog 24 #[.agg (askVals a A1 c1 A2 c2)] w fun e w' => ∃ v, e = .returned (.tuple #[.slice none 0 0, v]) ∧ IsF 2 v w' ∧ Below w.heap.size w w' := by
  have HIz : Hid ((Tryd.prog.info? 24).map (·.size) = some 14) := by show _ = _; kernel_rfl
  have HM : Hid (decide (MayA a) = false) := decide_eq_false m
  have HMV : Hid (∀ W, Calls Tryd.prog 12 #[.agg (askVals a A1 c1 A2 c2)] W fun e w' => e = .returned (.bool false) ∧ Below W.heap.size W w') := fun W => by rw [← HM.out]; exact mayP_any a A1 A2 c1 c2 W
  have HVs : Hid (some (askVals a A1 c1 A2 c2).size = some 14) := rfl
  generalize askVals a A1 c1 A2 c2 = V at HMV HVs ⊢
  clear m HM
  go_enter Tryd.func24, Tryd.ntmps24
  go_wp2_with (refine wpList_load_row rfl 24 _ rfl w.heap.size rfl 24 _ (0, 0) _ (heap_alloc_new w _) Tryd.underlying24 rfl (by rw [HVs.out]; exact HIz.out) ?_)
  refine (HMV.out _).mono ?_
  rintro e w1 ⟨rfl, hb⟩
  have LW1 := Lib.hid (below_next (below_new w _) hb)
  clear hb HMV
  go_wp2_with fail
  refine (unless_no 2 _ _).mono ?_
  rintro e W0 ⟨rfl, rfl⟩
  go_wp2
  go_ret2
  exact ⟨_, rfl, isF_new (by decide), LW1.out.alloc LW1.out.size _⟩
theorem bodyOf_any (a : AskV) (A1 A2 : Option Addr) (c1 c2 : Nat) (w : World) (h : AskIn w w.heap.size a A1 c1 A2 c2) :
    Calls Tryd.prog 24 #[.agg (askVals a A1 c1 A2 c2)] w (BodyF a w) := by
  by_cases m : MayA a
  · refine (bodyOf_yes a A1 A2 c1 c2 w h m).mono ?_
    rintro e w' ⟨A', c', he, ho, hb⟩
    exact ⟨A', _, c', _, he, hb, .inl ⟨m, rfl, (laidA_len a).symm, ho⟩⟩
  · refine (bodyOf_no a A1 A2 c1 c2 w m).mono ?_
    rintro e w' ⟨v, he, hv, hb⟩
    exact ⟨_, _, _, _, he, hb, .inr ⟨m, hv, rfl⟩⟩
set_option maxRecDepth 100000 in
set_option maxHeartbeats 4000000 in
theorem bodyP_any (a : AskV) (A1 A2 : Option Addr) (c1 c2 : Nat) (w : World) (h : AskIn w w.heap.size a A1 c1 A2 c2) :
    Calls Tryd.prog 8 #[.agg (askVals a A1 c1 A2 c2)] w (BodyP a w) := by
  have HIz : Hid ((Tryd.prog.info? 24).map (·.size) = some 14) := by show _ = _; kernel_rfl
  have HC : Hid (∀ W, Below w.heap.size w W → Calls Tryd.prog 24 #[.agg (askVals a A1 c1 A2 c2)] W (BodyF a W)) := fun W hb => bodyOf_any a A1 A2 c1 c2 W (h.next hb)
  have HVs : Hid (some (askVals a A1 c1 A2 c2).size = some 14) := rfl
  generalize askVals a A1 c1 A2 c2 = V at HC HVs ⊢
  clear h
  go_enter Tryd.func8, Tryd.ntmps8
  go_wp2_with (refine wpList_load_row rfl 24 _ rfl w.heap.size rfl 24 _ (0, 0) _ (heap_alloc_new w _) Tryd.underlying24 rfl (by rw [HVs.out]; exact HIz.out) ?_)
  refine (HC.out _ (below_new w _)).mono ?_
  rintro e w1 ⟨A', n', c', v, rfl, hb, hq⟩
  have LW1 := Lib.hid (below_next (below_new w _) hb)
  have HV : ∃ c, IsF c v w1 ∧ ((MayA a ∧ c = 0 ∧ n' = (laidA a).length ∧ w1.ownsRow w.heap.size 5 1 (.slice A' n' c') n' (ints .u8 (laidA a))) ∨ (¬ MayA a ∧ c = 2 ∧ n' = 0)) := by
    rcases hq with ⟨m, hv, hn, ho⟩ | ⟨m, hv, hn⟩
    · exact ⟨0, .inl ⟨rfl, hv⟩, .inl ⟨m, rfl, hn, own_down ho (below_new w _).size⟩⟩
    · exact ⟨2, hv, .inr ⟨m, rfl, hn⟩⟩
  obtain ⟨c, hf, hk⟩ := HV
  have HF := Lib.hid hf
  have HK := Lib.hid hk
  clear hb hq hf hk HC
  go_wp2_with fail
  refine (wrap_any _ c v _ HF.out).mono ?_
  rintro e w2 ⟨v2, rfl, hv, hb⟩
  have HV2 := Lib.hid hv
  have HB2 := Lib.hid hb
  clear hv hb
  go_wp2
  go_ret2
  refine ⟨A', n', c', v2, rfl, below_next LW1.out HB2.out, ?_⟩
  rcases HK.out with ⟨m, hc, hn, ho⟩ | ⟨m, hc, hn⟩
  · rcases HV2.out with ⟨_, h⟩ | ⟨h0, _⟩
    · exact .inl ⟨m, h, hn, own_next ho HB2.out⟩
    · exact absurd hc h0
  · subst hc
    exact .inr ⟨m, HV2.out.err, hn⟩
end Go.Proofs.YtidpihpddkfhgaaDoor

