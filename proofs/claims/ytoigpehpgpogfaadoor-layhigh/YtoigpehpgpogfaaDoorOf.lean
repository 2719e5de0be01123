/- Several texts in one: Nr, Ns. -/
import Derived.Test.YtoigpehpgpogfaaDoorOd
/- Contract: the program's high parts as bytes, and the blocks that an error stands in. -/
namespace Go.Proofs.YtoigpehpgpogfaaDoor
open Go.RowKit Slices Go.Proofs.YtoigpehpgpogfaaDoor.Bit

/-- an error whose number is c, not wrapped, in a block of its own kind; of 0 none -/
def IsG (c : Int) (v : Value) (w : World) : Prop := (c = 0 ∧ v = .nilIface) ∨ (c ≠ 0 ∧ ∃ (p : Nat) (x : Value), v = .iface 75 (.pointer (some ⟨p, 0, none⟩)) ∧ w.heap[p]? = some (.cells #[.int .i64 c, x] 80 (0, 0)))
/-- the same, wrapped once -/
def IsH (c : Int) (v : Value) (w : World) : Prop := (c = 0 ∧ v = .nilIface) ∨ (c ≠ 0 ∧ ∃ (q p : Nat) (x s : Value), v = .iface 89 (.pointer (some ⟨q, 0, none⟩)) ∧ w.heap[q]? = some (.cells #[s, .iface 75 (.pointer (some ⟨p, 0, none⟩))] 91 (0, 0)) ∧ w.heap[p]? = some (.cells #[.int .i64 c, x] 80 (0, 0)))
theorem heap_lt {w : World} {p : Nat} {o : Obj} (h : w.heap[p]? = some o) : p < w.heap.size := (Array.getElem?_eq_some_iff.1 h).1
theorem IsG.next {c : Int} {v : Value} {w w' : World} (h : IsG c v w) (hb : Below w.heap.size w w') : IsG c v w' := by
  rcases h with h | ⟨h0, p, x, hv, hp⟩
  · exact .inl h
  · exact .inr ⟨h0, p, x, hv, (hb.block p (heap_lt hp)).trans hp⟩
theorem IsH.next {c : Int} {v : Value} {w w' : World} (h : IsH c v w) (hb : Below w.heap.size w w') : IsH c v w' := by
  rcases h with h | ⟨h0, q, p, x, s, hv, hq, hp⟩
  · exact .inl h
  · exact .inr ⟨h0, q, p, x, s, hv, (hb.block q (heap_lt hq)).trans hq, (hb.block p (heap_lt hp)).trans hp⟩
theorem IsH.err {c : Int} {v : Value} {w : World} (h : IsH c v w) : IsErr c v w := by
  rcases h with h | ⟨h0, q, p, x, s, hv, hq, hp⟩
  · exact .inl h
  · exact .inr ⟨h0, q, ⟨p, 0, none⟩, hv, by rw [cell_of_row _ _ 1 _ _ _ hq]; rfl, by rw [cell_of_row _ _ 0 _ _ _ hp]; rfl⟩
/-- a number of a list of numbers is written: errors stand in other blocks -/
theorem IsH.put {c : Int} {v : Value} {w : World} (h : IsH c v w) {B g n k : Nat} {xs : List Value} (ho : w.ownsRow B 3 1 (.slice (some ⟨g, 0, none⟩) n k) n xs) (j : Nat) (u : Value) : IsH c v (w.setCell ⟨g, j, none⟩ u) := by
  rcases h with h | ⟨h0, q, p, x, s, hv, hq, hp⟩
  · exact .inl h
  · have hg : ∃ cur, w.heap[g]? = some (.cells cur 3 (0, 0)) := by
      rcases ho.2 with ⟨e, _⟩ | ⟨g', c', cur, e, _, hg, _⟩
      · simp at e
      · simp only [Value.slice.injEq, Option.some.injEq, Addr.mk.injEq, and_true, true_and] at e
        rw [e.1]
        exact ⟨cur, hg⟩
    obtain ⟨cur, hg⟩ := hg
    have hk := grown_set w g j u
    have n1 : q ≠ g := fun e => by subst e; rw [hg] at hq; simp at hq
    have n2 : p ≠ g := fun e => by subst e; rw [hg] at hp; simp at hp
    exact .inr ⟨h0, q, p, x, s, hv, (hk.block q (heap_lt hq) (fun e => n1 (by cases e; rfl))).trans hq, (hk.block p (heap_lt hp) (fun e => n2 (by cases e; rfl))).trans hp⟩
theorem isG_nil (w : World) : IsG 0 .nilIface w := .inl ⟨rfl, rfl⟩
theorem isG_zero {v : Value} {w : World} (h : IsG 0 v w) : v = .nilIface := by
  rcases h with ⟨_, h⟩ | ⟨h, _⟩
  · exact h
  · exact absurd rfl h
theorem isG_some {c : Int} {v : Value} {w : World} (h : IsG c v w) (hc : c ≠ 0) : ∃ p : Nat, v = .iface 75 (.pointer (some ⟨p, 0, none⟩)) := by
  rcases h with ⟨e, _⟩ | ⟨_, p, _, h, _⟩
  · exact absurd e hc
  · exact ⟨p, h⟩
theorem unless_anyG (b : Bool) (c : Int) (x : ByteArray) (w : World) (h : c ≠ 0) :
    Calls Tryd.prog 75 #[.bool b, .int .i64 c, .string x] w fun e w' => ∃ v, e = .returned v ∧ IsG (if b then 0 else c) v w' ∧ Below w.heap.size w w' := by
  cases b with
  | true => exact (unless_yes c _ w).mono fun e w' h => ⟨_, h.1, by rw [← h.2]; exact isG_nil w, by rw [← h.2]; exact Below.refl _ _⟩
  | false => exact (unless_no c x w).mono fun e w' ⟨q1, q2⟩ => by subst q2; exact ⟨_, q1, .inr ⟨h, _, _, rfl, heap_alloc_new w _⟩, (Below.refl _ _).alloc (Nat.le_refl _) _⟩
theorem wrap_anyG (x : ByteArray) (c : Int) (v : Value) (w : World) (h : IsG c v w) :
    Calls Tryd.prog 51 #[.string x, v] w fun e w' => ∃ v', e = .returned v' ∧ IsH c v' w' ∧ Below w.heap.size w w' := by
  rcases h with ⟨rfl, rfl⟩ | ⟨h0, p, y, rfl, hp⟩
  · exact (wrap_nil x w).mono fun e w' q => ⟨_, q.1, .inl ⟨rfl, rfl⟩, by rw [← q.2]; exact Below.refl _ _⟩
  · refine (wrap_one x ⟨p, 0, none⟩ w).mono fun e w' ⟨q1, q2⟩ => ?_
    subst q2
    have hb : Below w.heap.size w (w.alloc (.cells #[.string x, .iface 75 (.pointer (some ⟨p, 0, none⟩))] 91)) := (Below.refl _ _).alloc (Nat.le_refl _) _
    exact ⟨_, q1, .inr ⟨h0, _, p, _, _, rfl, heap_alloc_new w _, (hb.block p (heap_lt hp)).trans hp⟩, hb⟩

set_option maxRecDepth 100000 in
set_option maxHeartbeats 1000000 in
theorem haveLists_anyG (x : ByteArray) (A : Option Addr) (c K : Nat) (m : Int) (es : List Ent) (w : World) (h : HasL w w.heap.size A es) (hn : es.length ≤ 4000) (_hK : K ≤ 4000) :
    Calls Tryd.prog 64 #[.string x, .slice A es.length c, .int .i64 K, .int .i64 m] w fun e w' => ∃ v, e = .returned v ∧ ((OkLists K m (nums es) ∧ IsG 0 v w') ∨ (¬ OkLists K m (nums es) ∧ IsG 3 v w')) ∧ Below w.heap.size w w' := by
  obtain ⟨b, hb⟩ : ∃ b, b = ((es.length : Int) == (K : Int)) := ⟨_, rfl⟩
  have HD : Hid (okTo b m (nums es) es.length = true ↔ OkLists K m (nums es)) := by
    show _ ↔ _
    have := okTo_lists K m (nums es)
    rw [nums_len, ← hb] at this
    exact this
  have hb' := hb.symm
  clear hb
  have H := Lib.hid h
  clear h
  go_enter Tryd.func64, Tryd.ntmps64
  go_wp2
  go_loopw [9, 11, 18] (fun v _ i wr => ∃ k n : Nat, k ≤ es.length ∧ i = .int .i64 k ∧ v = .bool (okTo b m (nums es) k) ∧ wr = w.drewN n) (fun _ _ i _ => es.length - (intOf i).toNat)
  case atStart => exact ⟨0, 0, by omega, rfl, by first | rfl | (show _ = Value.bool b; rw [← hb']), rfl⟩
  case round =>
    obtain ⟨k, n, hk, rfl, rfl, rfl⟩ := hrel
    by_cases hlt : k < es.length
    · obtain ⟨⟨a, rfl, hab, hac⟩, hh⟩ := H.out k hlt
      have hnx : okTo b m (nums es) (k + 1) = (okTo b m (nums es) k && okB m es[k].l) := by
        show (okTo b m (nums es) k && okB m ((nums es).getD k [])) = _
        rw [nums_at es hlt]
      have HNX := Lib.hid hnx
      have HH := Lib.hid hh
      clear hnx hh
      generalize okTo b m (nums es) k = ok at HNX ⊢
      generalize es[k] = en at hac HNX HH
      cases ok with
      | true =>
        go_wp2_with (go_at_call 76; refine (isList_any en.A en.c w.heap.size m en.l _ (HH.out.drewN n)).mono ?_; rintro e w' ⟨rfl, rfl⟩)
        go_roundw
        case rel => exact ⟨k + 1, n, by omega, by go_num, by rw [HNX.out]; rfl, rfl⟩
        case measure => simp [intOf]; omega
      | false =>
        go_wp2
        go_roundw
        case rel => exact ⟨k + 1, n, by omega, by go_num, by rw [HNX.out]; rfl, rfl⟩
        case measure => simp [intOf]; omega
    · have e : k = es.length := by omega
      subst e
      have hd := HD.out
      generalize okTo b m (nums es) es.length = ok at hd ⊢
      cases ok with
      | true =>
        have HOK := Lib.hid (hd.1 rfl)
        clear hd
        go_wp2_with (go_at_call 75; refine (unless_anyG true 3 x _ (by decide)).mono ?_; rintro e w' ⟨v, rfl, hv, hbb⟩; have HV := Lib.hid hv; have HBB := Lib.hid hbb; clear hv hbb)
        go_ret
        exact ⟨_, rfl, .inl ⟨HOK.out, HV.out⟩, below_next (below_drewN (Below.refl _ w) n) HBB.out⟩
      | false =>
        have HNO : Hid (¬ OkLists K m (nums es)) := fun q => Bool.noConfusion (hd.2 q)
        clear hd
        go_wp2_with (go_at_call 75; refine (unless_anyG false 3 x _ (by decide)).mono ?_; rintro e w' ⟨v, rfl, hv, hbb⟩; have HV := Lib.hid hv; have HBB := Lib.hid hbb; clear hv hbb)
        go_ret
        exact ⟨_, rfl, .inr ⟨HNO.out, HV.out⟩, below_next (below_drewN (Below.refl _ w) n) HBB.out⟩
/-- bytes and an error, with its blocks, are told -/
def ResG (w : World) (l : List Int) (E : Int) (e : Ending) (w' : World) : Prop :=
  ∃ A c v, e = .returned (.tuple #[.slice A l.length c, v]) ∧ w'.ownsRow w.heap.size 5 1 (.slice A l.length c) l.length (ints .u8 l) ∧ IsG E v w' ∧ Below w.heap.size w w'
def ResH (w : World) (l : List Int) (E : Int) (e : Ending) (w' : World) : Prop :=
  ∃ A c v, e = .returned (.tuple #[.slice A l.length c, v]) ∧ w'.ownsRow w.heap.size 5 1 (.slice A l.length c) l.length (ints .u8 l) ∧ IsH E v w' ∧ Below w.heap.size w w'
theorem resG_nil {w w' : World} {E : Int} {e : Ending} {v : Value} (he : e = .returned (.tuple #[.slice none 0 0, v])) (hv : IsG E v w') (hb : Below w.heap.size w w') : ResG w [] E e w' :=
  ⟨none, 0, v, he, World.ownsRow_nil _ _ _ _, hv, hb⟩

set_option maxRecDepth 100000 in
set_option maxHeartbeats 4000000 in
theorem laidHighG_6 (s : Int) (A : Option Addr) (c : Nat) (es : List Ent) (w : World) (hs : setB s = true) (h : HasL w w.heap.size A es) (hn : es.length ≤ 4000)
    (K : Nat) (K0 : 1 ≤ K) (K1 : K ≤ 8) (x1 x2 x3 x4 x5 x6 x8 : Int) (hx : setV s = #[.int .i64 K, .int .i64 x1, .int .i64 x2, .int .i64 x3, .int .i64 x4, .int .i64 x5, .int .i64 x6, .int .i64 95232, .int .i64 x8]) (E : Int) (B : List Int)
    (hEB : (HighShape K 44 (nums es) → E = 0 ∧ B = highL 6 (nums es) K) ∧ (¬ HighShape K 44 (nums es) → E = 3 ∧ B = [])) :
    Calls Tryd.prog 53 #[.int .i64 s, .slice A es.length c] w (ResG w B E) := by
  have HX := Lib.hid hx
  have HS := Lib.hid hs
  have H := Lib.hid h
  have HEB := Lib.hid hEB
  clear hx h hs hEB
  go_enter Tryd.func53, Tryd.ntmps53
  go_wp2_with (go_at_call 63; refine (haveSet_yes s _ HS.out).mono ?_; rw [HX.out]; rintro e w1 ⟨rfl, hb⟩; have HB := Lib.hid hb; clear hb)
  have hb2 : Below w.heap.size w (w1.alloc (.cells #[.int .i64 K, .int .i64 x1, .int .i64 x2, .int .i64 x3, .int .i64 x4, .int .i64 x5, .int .i64 x6, .int .i64 95232, .int .i64 x8] 30)) := HB.out.alloc HB.out.size _
  have hn2 := Nine.new w1 30 #[.int .i64 K, .int .i64 x1, .int .i64 x2, .int .i64 x3, .int .i64 x4, .int .i64 x5, .int .i64 x6, .int .i64 95232, .int .i64 x8]
  generalize w1.heap.size = gs at hn2
  generalize World.alloc _ _ = w2 at hb2 hn2 ⊢
  have H2 := Lib.hid (H.out.next hb2)
  have HB2 := Lib.hid hb2
  have c0 : w2.cell? ⟨gs, 0, none⟩ = some (.int .i64 K) := hn2.cell 0
  have c7 : w2.cell? ⟨gs, 7, none⟩ = some (.int .i64 95232) := hn2.cell 7
  clear HB hb2 hn2
  go_wp2_with fail
  refine (haveLists_anyG _ A c K 44 es w2 H2.out hn (by omega)).mono ?_
  rintro e w3 ⟨v, rfl, hv, hb3⟩
  have H3 := Lib.hid (H2.out.next hb3)
  have HB3 := Lib.hid (below_next HB2.out hb3)
  clear hb3 H2 HB2 c0 c7
  rcases hv with ⟨hok, hv⟩ | ⟨hno, hv⟩
  · have e := isG_zero hv
    subst e
    have HSH : Hid (HighShape K 44 (nums es)) := hok
    clear hok hv
    have hlen : es.length = K := by have := HSH.out.1; rwa [nums_len] at this
    have HLN := Lib.hid hlen
    have k1 : 1 ≤ es.length := by omega
    have k2 : es.length ≤ 8 := by omega
    clear hlen
    have HL : Hid (∀ i (h : i < es.length), es[i].l.length = 256) := fun i hi => by
      have := (HSH.out.2 i (by have := HLN.out; omega)).1
      rwa [nums_at es hi] at this
    have HPK : Hid (packI (6 : Int) (flatTo (nums es) es.length) = highL 6 (nums es) K) := by
      show packI (6 : Int) _ = _
      rw [HLN.out]
      exact flat_pack (D := 6) (M := 44) (by omega) (by omega) (by decide) K HSH.out.2
    have HFL : Hid ((flatTo (nums es) es.length).length ≤ 4000) := by
      show _ ≤ _
      rw [flatTo_len _ fun i hi => (HSH.out.2 i (by have := HLN.out; omega)).1]
      omega
    go_wp2_with (first
      | (go_at_call 41; refine (widthOf_lit 43 6 43 _ (by omega) (by omega) (by decide)).mono ?_; rintro e w' ⟨rfl, rfl⟩)
      | (go_at_call 67; refine (concat_any A c es _ H3.out k1 k2 HL.out).mono ?_; rintro e w4 ⟨A4, c4, rfl, ho, hb⟩; have HO4 := Lib.hid ho; have HB4 := Lib.hid (below_next HB3.out hb); clear ho hb)
      | (go_at_call 36; refine (pack_any 6 A4 c4 _ (flatTo (nums es) es.length) _ rfl (own_read HO4.out) HFL.out).mono ?_; rw [HPK.out]; rintro e w5 ⟨A5, c5, rfl, ho5, hb5⟩; have HO5 := Lib.hid (own_down ho5 HB4.out.size); have HB5 := Lib.hid (below_next HB4.out hb5); clear ho5 hb5))
    go_ret2
    obtain ⟨rfl, rfl⟩ := HEB.out.1 HSH.out
    exact ⟨A5, c5, .nilIface, rfl, HO5.out, isG_nil _, HB5.out⟩
  · obtain ⟨p, rfl⟩ := isG_some hv (by decide)
    have HV := Lib.hid hv
    have HBAD : Hid (¬ HighShape K 44 (nums es)) := hno
    clear hno hv
    go_wp2
    go_ret2
    obtain ⟨rfl, rfl⟩ := HEB.out.2 HBAD.out
    exact resG_nil rfl HV.out HB3.out

set_option maxRecDepth 100000 in
set_option maxHeartbeats 4000000 in
theorem laidHighG_4 (s : Int) (A : Option Addr) (c : Nat) (es : List Ent) (w : World) (hs : setB s = true) (h : HasL w w.heap.size A es) (hn : es.length ≤ 4000)
    (K : Nat) (K0 : 1 ≤ K) (K1 : K ≤ 8) (x1 x2 x3 x4 x5 x6 x8 : Int) (hx : setV s = #[.int .i64 K, .int .i64 x1, .int .i64 x2, .int .i64 x3, .int .i64 x4, .int .i64 x5, .int .i64 x6, .int .i64 261888, .int .i64 x8]) (E : Int) (B : List Int)
    (hEB : (HighShape K 16 (nums es) → E = 0 ∧ B = highL 4 (nums es) K) ∧ (¬ HighShape K 16 (nums es) → E = 3 ∧ B = [])) :
    Calls Tryd.prog 53 #[.int .i64 s, .slice A es.length c] w (ResG w B E) := by
  have HX := Lib.hid hx
  have HS := Lib.hid hs
  have H := Lib.hid h
  have HEB := Lib.hid hEB
  clear hx h hs hEB
  go_enter Tryd.func53, Tryd.ntmps53
  go_wp2_with (go_at_call 63; refine (haveSet_yes s _ HS.out).mono ?_; rw [HX.out]; rintro e w1 ⟨rfl, hb⟩; have HB := Lib.hid hb; clear hb)
  have hb2 : Below w.heap.size w (w1.alloc (.cells #[.int .i64 K, .int .i64 x1, .int .i64 x2, .int .i64 x3, .int .i64 x4, .int .i64 x5, .int .i64 x6, .int .i64 261888, .int .i64 x8] 30)) := HB.out.alloc HB.out.size _
  have hn2 := Nine.new w1 30 #[.int .i64 K, .int .i64 x1, .int .i64 x2, .int .i64 x3, .int .i64 x4, .int .i64 x5, .int .i64 x6, .int .i64 261888, .int .i64 x8]
  generalize w1.heap.size = gs at hn2
  generalize World.alloc _ _ = w2 at hb2 hn2 ⊢
  have H2 := Lib.hid (H.out.next hb2)
  have HB2 := Lib.hid hb2
  have c0 : w2.cell? ⟨gs, 0, none⟩ = some (.int .i64 K) := hn2.cell 0
  have c7 : w2.cell? ⟨gs, 7, none⟩ = some (.int .i64 261888) := hn2.cell 7
  clear HB hb2 hn2
  go_wp2_with fail
  refine (haveLists_anyG _ A c K 16 es w2 H2.out hn (by omega)).mono ?_
  rintro e w3 ⟨v, rfl, hv, hb3⟩
  have H3 := Lib.hid (H2.out.next hb3)
  have HB3 := Lib.hid (below_next HB2.out hb3)
  clear hb3 H2 HB2 c0 c7
  rcases hv with ⟨hok, hv⟩ | ⟨hno, hv⟩
  · have e := isG_zero hv
    subst e
    have HSH : Hid (HighShape K 16 (nums es)) := hok
    clear hok hv
    have hlen : es.length = K := by have := HSH.out.1; rwa [nums_len] at this
    have HLN := Lib.hid hlen
    have k1 : 1 ≤ es.length := by omega
    have k2 : es.length ≤ 8 := by omega
    clear hlen
    have HL : Hid (∀ i (h : i < es.length), es[i].l.length = 256) := fun i hi => by
      have := (HSH.out.2 i (by have := HLN.out; omega)).1
      rwa [nums_at es hi] at this
    have HPK : Hid (packI (4 : Int) (flatTo (nums es) es.length) = highL 4 (nums es) K) := by
      show packI (4 : Int) _ = _
      rw [HLN.out]
      exact flat_pack (D := 4) (M := 16) (by omega) (by omega) (by decide) K HSH.out.2
    have HFL : Hid ((flatTo (nums es) es.length).length ≤ 4000) := by
      show _ ≤ _
      rw [flatTo_len _ fun i hi => (HSH.out.2 i (by have := HLN.out; omega)).1]
      omega
    go_wp2_with (first
      | (go_at_call 41; refine (widthOf_lit 15 4 15 _ (by omega) (by omega) (by decide)).mono ?_; rintro e w' ⟨rfl, rfl⟩)
      | (go_at_call 67; refine (concat_any A c es _ H3.out k1 k2 HL.out).mono ?_; rintro e w4 ⟨A4, c4, rfl, ho, hb⟩; have HO4 := Lib.hid ho; have HB4 := Lib.hid (below_next HB3.out hb); clear ho hb)
      | (go_at_call 36; refine (pack_any 4 A4 c4 _ (flatTo (nums es) es.length) _ rfl (own_read HO4.out) HFL.out).mono ?_; rw [HPK.out]; rintro e w5 ⟨A5, c5, rfl, ho5, hb5⟩; have HO5 := Lib.hid (own_down ho5 HB4.out.size); have HB5 := Lib.hid (below_next HB4.out hb5); clear ho5 hb5))
    go_ret2
    obtain ⟨rfl, rfl⟩ := HEB.out.1 HSH.out
    exact ⟨A5, c5, .nilIface, rfl, HO5.out, isG_nil _, HB5.out⟩
  · obtain ⟨p, rfl⟩ := isG_some hv (by decide)
    have HV := Lib.hid hv
    have HBAD : Hid (¬ HighShape K 16 (nums es)) := hno
    clear hno hv
    go_wp2
    go_ret2
    obtain ⟨rfl, rfl⟩ := HEB.out.2 HBAD.out
    exact resG_nil rfl HV.out HB3.out

set_option maxHeartbeats 1000000 in
theorem pHighG_6 (s : Int) (A : Option Addr) (c : Nat) (es : List Ent) (w : World) (hs : setB s = true) (h : HasL w w.heap.size A es) (hn : es.length ≤ 4000)
    (K : Nat) (K0 : 1 ≤ K) (K1 : K ≤ 8) (x1 x2 x3 x4 x5 x6 x8 : Int) (hx : setV s = #[.int .i64 K, .int .i64 x1, .int .i64 x2, .int .i64 x3, .int .i64 x4, .int .i64 x5, .int .i64 x6, .int .i64 95232, .int .i64 x8]) (E : Int) (B : List Int)
    (hEB : (HighShape K 44 (nums es) → E = 0 ∧ B = highL 6 (nums es) K) ∧ (¬ HighShape K 44 (nums es) → E = 3 ∧ B = [])) :
    Calls Tryd.prog 31 #[.int .i64 s, .slice A es.length c] w (ResH w B E) := by
  have HC : Hid (∀ w', w' = w → Calls Tryd.prog 53 #[.int .i64 s, .slice A es.length c] w' (ResG w' B E)) := fun w' e => by
    subst e
    exact laidHighG_6 s A c es w' hs h hn K K0 K1 x1 x2 x3 x4 x5 x6 x8 hx E B hEB
  clear h hs hx hEB
  go_enter Tryd.func31, Tryd.ntmps31
  go_wp2_with (first
    | (go_at_call 53; refine (HC.out _ rfl).mono ?_; rintro e w1 ⟨A1, c1, v, rfl, ho, hv, hb⟩; have HO := Lib.hid ho; have HV := Lib.hid hv; have HB := Lib.hid hb; clear ho hv hb)
    | (go_at_call 51; refine (wrap_anyG _ _ v _ HV.out).mono ?_; rintro e w2 ⟨v2, rfl, hv2, hb2⟩; have HV2 := Lib.hid hv2; have HB2 := Lib.hid hb2; clear hv2 hb2))
  go_ret2
  exact ⟨A1, c1, v2, rfl, own_next HO.out HB2.out, HV2.out, below_next HB.out HB2.out⟩

set_option maxHeartbeats 1000000 in
theorem pHighG_4 (s : Int) (A : Option Addr) (c : Nat) (es : List Ent) (w : World) (hs : setB s = true) (h : HasL w w.heap.size A es) (hn : es.length ≤ 4000)
    (K : Nat) (K0 : 1 ≤ K) (K1 : K ≤ 8) (x1 x2 x3 x4 x5 x6 x8 : Int) (hx : setV s = #[.int .i64 K, .int .i64 x1, .int .i64 x2, .int .i64 x3, .int .i64 x4, .int .i64 x5, .int .i64 x6, .int .i64 261888, .int .i64 x8]) (E : Int) (B : List Int)
    (hEB : (HighShape K 16 (nums es) → E = 0 ∧ B = highL 4 (nums es) K) ∧ (¬ HighShape K 16 (nums es) → E = 3 ∧ B = [])) :
    Calls Tryd.prog 31 #[.int .i64 s, .slice A es.length c] w (ResH w B E) := by
  have HC : Hid (∀ w', w' = w → Calls Tryd.prog 53 #[.int .i64 s, .slice A es.length c] w' (ResG w' B E)) := fun w' e => by
    subst e
    exact laidHighG_4 s A c es w' hs h hn K K0 K1 x1 x2 x3 x4 x5 x6 x8 hx E B hEB
  clear h hs hx hEB
  go_enter Tryd.func31, Tryd.ntmps31
  go_wp2_with (first
    | (go_at_call 53; refine (HC.out _ rfl).mono ?_; rintro e w1 ⟨A1, c1, v, rfl, ho, hv, hb⟩; have HO := Lib.hid ho; have HV := Lib.hid hv; have HB := Lib.hid hb; clear ho hv hb)
    | (go_at_call 51; refine (wrap_anyG _ _ v _ HV.out).mono ?_; rintro e w2 ⟨v2, rfl, hv2, hb2⟩; have HV2 := Lib.hid hv2; have HB2 := Lib.hid hb2; clear hv2 hb2))
  go_ret2
  exact ⟨A1, c1, v2, rfl, own_next HO.out HB2.out, HV2.out, below_next HB.out HB2.out⟩
end Go.Proofs.YtoigpehpgpogfaaDoor

/- The law LayHigh, walked. -/
namespace Go.Proofs.YtoigpehpgpogfaaDoor
open Go.RowKit Slices Go.Proofs.YtoigpehpgpogfaaDoor.Bit

/-- rows of unlike kinds never share a block -/
theorem own_apart {t t' : TypeId} (ht : t ≠ t') {w : World} {B B' n m : Nat} {v v' : Value} {xs ys : List Value} (h : w.ownsRow B t 1 v n xs) (h' : w.ownsRow B' t' 1 v' m ys) : v.ownBlock = none ∨ v.ownBlock ≠ v'.ownBlock := by
  rcases h.2 with ⟨rfl, _⟩ | ⟨g, c, cur, rfl, _, hg, _⟩
  · exact .inl rfl
  · refine .inr fun e => ?_
    rcases h'.2 with ⟨rfl, _⟩ | ⟨g', c', cur', rfl, _, hg', _⟩
    · cases e
    · injection e with e
      have : g = g' := e
      subst this
      rw [hg] at hg'
      simp at hg'
      exact ht hg'.2
theorem OwnL.kept5 {B B' m : Nat} {v u : Value} {es : List Ent} {w w' : World} {ys : List Value} (h : OwnL B v es w) (hu : w.ownsRow B' 5 1 u m ys) (hg : w.grownBy w' u.ownBlock) : OwnL B v es w' :=
  ⟨h.1.kept hg (own_apart (by decide) h.1 hu), fun e he => (h.2 e he).kept hg (own_apart (by decide) (h.2 e he) hu)⟩
theorem highL_prefix {D : Nat} {h h' : List (List Int)} : ∀ k, (∀ i, i < k → h.getD i [] = h'.getD i []) → highL D h k = highL D h' k := by
  intro k
  induction k with
  | zero => intro _; rfl
  | succ k ih =>
    intro q
    show highL D h k ++ packI D (h.getD k []) = highL D h' k ++ packI D (h'.getD k [])
    rw [ih fun i hi => q i (by omega), q k (by omega)]
theorem nums_push (es : List Ent) (e : Ent) : nums (es ++ [e]) = nums es ++ [e.l] := by simp [nums]
theorem getD_push {h : List (List Int)} {l : List Int} {i : Nat} (hi : i < h.length) : (h ++ [l]).getD i [] = h.getD i [] := by
  rw [List.getD_eq_getElem?_getD, List.getElem?_append_left hi, ← List.getD_eq_getElem?_getD]
theorem getD_last (h : List (List Int)) (l : List Int) : (h ++ [l]).getD h.length [] = l := by
  rw [List.getD_eq_getElem?_getD, List.getElem?_append_right (Nat.le_refl _), Nat.sub_self]; rfl
/-- the first k polys, and their bytes -/
def HiRow (w : World) (M D k : Nat) (v u : Value) (es : List Ent) (wr : World) : Prop :=
  es.length = k ∧ OwnL w.heap.size v es wr ∧ Alone es ∧ (∀ i, i < k → HighPoly M ((nums es).getD i [])) ∧ wr.ownsRow w.heap.size 5 1 u (highL D (nums es) k).length (ints .u8 (highL D (nums es) k)) ∧ Below w.heap.size w wr
/-- a poly whose first j numbers are below M -/
def FiRow (w : World) (g N M j : Nat) (l : List Int) (wr : World) : Prop :=
  wr.ownsRow w.heap.size 3 1 (.slice (some ⟨g, 0, none⟩) N N) N (ints .i64 l) ∧ (∀ i, i < j → 0 ≤ l.getD i 0 ∧ l.getD i 0 < M) ∧ Below w.heap.size w wr
theorem below_set {l : List Int} {M j : Nat} {x : Int} (h : ∀ i, i < j → 0 ≤ l.getD i 0 ∧ l.getD i 0 < M) (hj : j < l.length) (h0 : 0 ≤ x) (h1 : x < M) : ∀ i, i < j + 1 → 0 ≤ (l.set j x).getD i 0 ∧ (l.set j x).getD i 0 < M := fun i hi => by
  rw [List.getD_eq_getElem?_getD, List.getElem?_set]
  by_cases e : j = i
  · subst e
    rw [if_pos rfl, if_pos hj]; exact ⟨h0, h1⟩
  · rw [if_neg e, ← List.getD_eq_getElem?_getD]; exact h i (by omega)

theorem list_at {B gB n cB a : Nat} {es : List Ent} {w : World} (h : OwnL B (.slice (some ⟨gB, 0, none⟩) n cB) es w) (hn : n = es.length) (hak : a < es.length) (hl : es[a].l.length = 256) :
    ∃ ga ca, es[a].A = some ⟨ga, 0, none⟩ ∧ B ≤ ga ∧ w.cell? ⟨gB, a, none⟩ = some (.slice (some ⟨ga, 0, none⟩) 256 ca) ∧ w.ownsRow B 3 1 (.slice (some ⟨ga, 0, none⟩) es[a].l.length ca) es[a].l.length (ints .i64 es[a].l) := by
  subst hn
  have hm3 : w.ownsRow B 3 1 (eval es[a]) es[a].l.length (ints .i64 es[a].l) := h.2 _ (List.getElem_mem hak)
  obtain ⟨ga, ca, hev, hgB2⟩ := own_form hm3 (by omega)
  have hA : es[a].A = some ⟨ga, 0, none⟩ := by unfold eval at hev; injection hev
  have hcell := h.1.cellAt a (by omega)
  rw [List.getElem?_map, List.getElem?_eq_getElem hak] at hcell
  have hc4 : w.cell? ⟨gB, a, none⟩ = some (.slice (some ⟨ga, 0, none⟩) 256 ca) := by
    have e : eval es[a] = .slice (some ⟨ga, 0, none⟩) 256 ca := by rw [hev, hl]
    rw [hcell]; show some (eval es[a]) = _; rw [e]
  have hm4 : w.ownsRow B 3 1 (.slice (some ⟨ga, 0, none⟩) es[a].l.length ca) es[a].l.length (ints .i64 es[a].l) := by
    have := hm3; rw [hev] at this; exact this
  exact ⟨ga, ca, hA, hgB2, hc4, hm4⟩
/-- a number of one of the lists is written: what stays -/
theorem own5_put {B B' g n c k : Nat} {w : World} {u : Value} {xs ys : List Value} (h : w.ownsRow B 5 1 u n xs) (ho : w.ownsRow B' 3 1 (.slice (some ⟨g, 0, none⟩) c k) c ys) (j : Nat) (x : Value) : (w.setCell ⟨g, j, none⟩ x).ownsRow B 5 1 u n xs :=
  h.kept (grown_set w g j x) (own_apart (by decide) h ho)
theorem nums_put2 (es : List Ent) {i : Nat} (hi : i < es.length) (j : Nat) (x : Int) : nums (es.set i (es[i].put j x)) = (nums es).set i (((nums es).getD i []).set j x) := by
  rw [nums_at es hi]
  unfold nums
  rw [List.map_set]; rfl
theorem put_bad {M k a d : Nat} {es : List Ent} {x : Int} (ha : a < es.length) (hk : a < k) (hd : d < 256) (hl : es[a].l.length = 256) (hx : ¬ (0 ≤ x ∧ x < M)) : ¬ HighShape k M (nums (es.set a (es[a].put d x))) := fun q => by
  have h1 := (q.2 a hk).2 d hd
  rw [nums_put2 es ha, getD_setL _ _ _ (by rw [nums_len]; exact ha), if_pos rfl, nums_at es ha, getD_set _ _ _ (by omega), if_pos rfl] at h1
  exact hx h1
theorem low_in (z n : Int) (w : World) (h0 : 1 ≤ n) (h1 : n ≤ 4611686018427387904) :
    Calls Tryd.prog 25 #[.int .i64 z, .int .i64 n] w fun e w' => ∃ v, e = .returned (.int .i64 v) ∧ 0 ≤ v ∧ v < n ∧ w = w' :=
  (lawLow_any z n w h0 h1).mono fun _ _ h => ⟨low z n, h.1, low_lo z h0, low_hi z h0, h.2⟩

set_option maxRecDepth 100000 in
set_option maxHeartbeats 1000000 in
theorem layHigh_big (x y z : Int) (A : Option Addr) (c n : Nat) (w : World) (hn : n ≤ 4611686018427387904) (h : 100 < n ∨ n = 0) (hg : Han w) :
    Calls Tryd.prog 7 #[.int .i64 x, .slice A n c, .int .i64 y, .int .i64 z] w fun e w' => e = .returned (.bool true) ∧ Below w.heap.size w w' := by
  have HG := Lib.hid hg
  clear hg
  by_cases h1 : 100 < n
  · clear h
    go_enter Tryd.func7, Tryd.ntmps7
    go_wp2_with (go_at_call 8; refine (awake_any layOk _ HG.out).mono ?_; rintro e w' ⟨rfl, hb⟩)
    go_ret
    exact ⟨rfl, hb⟩
  · have e : n = 0 := by omega
    subst e
    go_enter Tryd.func7, Tryd.ntmps7
    go_wp2_with (go_at_call 8; refine (awake_any layOk _ HG.out).mono ?_; rintro e w' ⟨rfl, hb⟩)
    go_ret
    exact ⟨rfl, hb⟩

set_option maxRecDepth 100000 in
set_option maxHeartbeats 8000000 in
theorem layHigh_6 (x y z t : Int) (A : Option Addr) (c : Nat) (ns : List Int) (w : World) (h : Has .i64 w w.heap.size A ns) (hn0 : 0 < ns.length) (hn : ns.length ≤ 100) (hg : Han w)
    (ht : t = low x 3) (hs : setB (1 + t) = true) (t1 : ((1 + t) == 1) = true) (K : Nat) (K0 : 4 ≤ K) (K1 : K ≤ 8) (x1 x2 x3 x4 x5 x6 x8 : Int) (hx : setV (1 + t) = #[.int .i64 K, .int .i64 x1, .int .i64 x2, .int .i64 x3, .int .i64 x4, .int .i64 x5, .int .i64 x6, .int .i64 95232, .int .i64 x8]) :
    Calls Tryd.prog 7 #[.int .i64 x, .slice A ns.length c, .int .i64 y, .int .i64 z] w fun e w' => e = .returned (.bool true) ∧ Below w.heap.size w w' := by
  obtain ⟨i0, hi0, hz0, hz1, hz2⟩ := info_parts Tryd.info3
  obtain ⟨j0, hj0, hy0, hy1, hy2⟩ := info_parts Tryd.infoInts
  obtain ⟨k0, hk0, hw0, hw1, hw2⟩ := info_parts Tryd.info5
  obtain ⟨N, hN⟩ : ∃ N : Nat, N = 256 := ⟨_, rfl⟩
  have n0 : N ≤ 256 := by omega
  have n1 : 256 ≤ N := by omega
  have tt0 : 0 ≤ t := by rw [ht]; exact low_lo x (by omega)
  have tt1 : t < 3 := by rw [ht]; exact low_hi x (by omega)
  have HLW : Hid (∀ w : World, Calls Tryd.prog 25 #[.int .i64 x, .int .i64 3] w fun e w' => e = .returned (.int .i64 t) ∧ w = w') := fun w => by rw [ht]; exact lawLow_any x 3 w (by omega) (by omega)
  have tn : ((ns.length : Int) == 0) = false := by rw [beq_eq_false_iff_ne]; omega
  have HNN := Lib.hid hN
  have HX := Lib.hid hx
  have HS := Lib.hid hs
  have H := Lib.hid h
  have HG := Lib.hid hg
  clear hx h hs hg ht hN
  go_enter Tryd.func7, Tryd.ntmps7
  go_wp2_with (first
    | (go_at_call 25; refine (HLW.out _).mono ?_; rintro e w' ⟨rfl, rfl⟩)
    | (go_at_call 13; refine (pSet_any (1 + t) _).mono ?_; rw [HX.out, HS.out]; rintro e w1 ⟨rfl, hb⟩; have HB := Lib.hid hb; clear hb))
  have hb2 : Below w.heap.size w (w1.alloc (.cells #[.int .i64 K, .int .i64 x1, .int .i64 x2, .int .i64 x3, .int .i64 x4, .int .i64 x5, .int .i64 x6, .int .i64 95232, .int .i64 x8] 30)) := HB.out.alloc HB.out.size _
  have hn2 := Nine.new w1 30 #[.int .i64 K, .int .i64 x1, .int .i64 x2, .int .i64 x3, .int .i64 x4, .int .i64 x5, .int .i64 x6, .int .i64 95232, .int .i64 x8]
  generalize w1.heap.size = gs at hn2
  generalize World.alloc _ _ = w2 at hb2 hn2 ⊢
  have H2 := Lib.hid (has_next H.out hb2)
  have HB2 := Lib.hid hb2
  have HN2 := Lib.hid hn2
  clear HB hb2 hn2 H HLW
  have c0 : w2.cell? ⟨gs, 0, none⟩ = some (.int .i64 K) := HN2.out.cell 0
  have c7 : w2.cell? ⟨gs, 7, none⟩ = some (.int .i64 95232) := HN2.out.cell 7
  go_wp2
  clear c0 c7
  have HS0 : Hid (HiRow w2 44 6 0 (.slice none 0 0) (.slice none 0 0) [] w2) := ⟨rfl, ⟨World.ownsRow_nil _ _ _ _, fun e he => by cases he⟩, alone_nil, fun i hi => by omega, World.ownsRow_nil _ _ _ _, Below.refl _ _⟩
  go_loopw [13, 14, 15] (fun v u i wr => ∃ (k : Nat) (es : List Ent), k ≤ K ∧ i = .int .i64 k ∧ HiRow w2 44 6 k v u es wr) (fun _ _ i _ => K - (intOf i).toNat)
  case atStart => exact ⟨0, [], by omega, rfl, HS0.out⟩
  case round =>
    obtain ⟨k, es, hkK, rfl, hrow⟩ := hrel
    have HR := Lib.hid hrow
    have c0 : wr.cell? ⟨gs, 0, none⟩ = some (.int .i64 K) := (HN2.out.next hrow.2.2.2.2.2).cell 0
    have hsz : w2.heap.size ≤ wr.heap.size := hrow.2.2.2.2.2.size
    clear hrow HS0
    by_cases hlt : k < K
    · have bk : decide ((k : Int) < (K : Int)) = true := by rw [decide_eq_true_iff]; omega
      go_wp2_with (at_make; refine wpList_make_full _ rfl _ _ 22 rfl wr.heap.size 3 i0 (.int .i64 0) 1 Tryd.underlying22 hi0 hz0 hz1 _ _ _ _ N rfl rfl (by omega) (by omega) (by rw [hz2]; omega) (by unfold maxLen; omega) (Nat.le_refl _) ?_; intro w3 hown hgrow; rw [made_ints] at hown; have hb3 : Below wr.heap.size wr w3 := (Below.refl _ _).grown hgrow (Nat.le_refl _) (by simp); have HO := Lib.hid hown; clear hown; have HB3 := Lib.hid hb3; clear hgrow hb3)
      have HF0 : Hid (FiRow wr wr.heap.size N 44 0 (List.replicate N 0) w3) := ⟨HO.out, fun i hi => by omega, HB3.out⟩
      clear HO HB3 c0
      obtain ⟨wo, hwo⟩ : ∃ wo, wo = wr := ⟨_, rfl⟩
      obtain ⟨g, hgg⟩ : ∃ g, g = wr.heap.size := ⟨_, rfl⟩
      have HGG : Hid (g = wo.heap.size) := by show g = wo.heap.size; rw [hwo]; exact hgg
      have HRO : Hid (HiRow w2 44 6 k u13 u14 es wo) := by rw [hwo]; exact HR.out
      have HFO : Hid (FiRow wo g N 44 0 (List.replicate N 0) w3) := by rw [hwo, hgg]; exact HF0.out
      have hsz2 : w2.heap.size ≤ wo.heap.size := by rw [hwo]; exact hsz
      rw [← hgg]
      clear HR HF0 hsz hwo hgg
      go_loopw [17] (fun i wi => ∃ (j : Nat) (l : List Int), j ≤ 256 ∧ i = .int .i64 j ∧ FiRow wo g N 44 j l wi) (fun i _ => 256 - (intOf i).toNat)
      case atStart => exact ⟨0, _, by omega, rfl, HFO.out⟩
      case round =>
        obtain ⟨j, l, hj, rfl, hrow⟩ := hrel
        have HF := Lib.hid hrow
        clear hrow HFO
        by_cases hjl : j < 256
        · have bj : decide ((j : Int) < 256) = true := by rw [decide_eq_true_iff]; omega
          have hm : j % ns.length < ns.length := Nat.mod_lt _ hn0
          obtain ⟨ad, rfl, hb, ha⟩ := H2.out (j % ns.length) hm
          have hbel : Below w2.heap.size w2 wr := below_next HRO.out.2.2.2.2.2 HF.out.2.2
          have hcell : wr.cell? (ad.add (j % ns.length)) = some (.int .i64 (ns.getD (j % ns.length) 0)) := (hbel.cell (by rw [add_block]; exact hb)).trans ha
          have hc := own_cell HF.out.1 (k := j) (by omega)
          have hf := HF.out.1.frozenAt j
          have hll := own_len HF.out.1
          have HLL := Lib.hid hll
          clear hbel ha hll
          generalize ns.getD (j % ns.length) 0 = zz at hcell
          go_wp2_with (go_at_call 25; refine (low_in _ 44 _ (by decide) (by decide)).mono ?_; rintro e w' ⟨v, rfl, v0, v1, rfl⟩)
          go_roundw
          case rel => exact ⟨j + 1, l.set j v, by omega, by go_num, own_set HF.out.1 j v, below_set HF.out.2.1 (by rw [HLL.out]; omega) v0 (by omega), HF.out.2.2.setCell (by show wo.heap.size ≤ g; have := HGG.out; omega) _⟩
          case measure => simp [intOf]; omega
        · have bj : decide ((j : Int) < 256) = false := by rw [decide_eq_false_iff_not]; omega
          have e : j = 256 := by omega
          subst e
          have hll := own_len HF.out.1
          have HPO : Hid (HighPoly 44 l) := ⟨by rw [hll]; exact HNN.out, fun i hi => HF.out.2.1 i hi⟩
          have HLL := Lib.hid hll
          clear hll
          have HEN : Hid (eval (⟨some ⟨g, 0, none⟩, N, l⟩ : Ent) = .slice (some ⟨g, 0, none⟩) N N) := by show eval _ = _; unfold eval; rw [HLL.out]
          have HOW : Hid (OwnL w2.heap.size u13 es wr) := HRO.out.2.1.next HF.out.2.2
          have HWA : Hid (wr.ownsRow w2.heap.size 5 1 u14 (highL 6 (nums es) k).length (ints .u8 (highL 6 (nums es) k))) := own_next HRO.out.2.2.2.2.1 HF.out.2.2
          have HBW : Hid (Below w2.heap.size w2 wr) := below_next HRO.out.2.2.2.2.2 HF.out.2.2
          have HES : Hid (es.length = k) := HRO.out.1
          have HMI : Hid (Mine3 w2.heap.size ⟨some ⟨g, 0, none⟩, N, l⟩ wr) := by
            show Mine3 _ _ _
            unfold Mine3
            rw [HEN.out]
            show wr.ownsRow _ _ _ _ l.length (ints .i64 l)
            rw [HLL.out]
            exact own_down HF.out.1 hsz2
          have HAL : Hid (Alone (es ++ [⟨some ⟨g, 0, none⟩, N, l⟩])) := Alone.push HRO.out.2.2.1 HRO.out.2.1 (fun q hq => by
            have e : some g = some q := hq
            injection e with e
            have := HGG.out
            omega)
          have HPS : Hid (∀ i, i < k → HighPoly 44 ((nums es).getD i [])) := HRO.out.2.2.2.1
          clear HRO HF
          go_wp2_with (at_builtin; refine append_any _ rfl (.tmp 93) (.tmp 95) 45 rfl w2.heap.size 22 j0 (.slice none 0 0) 1 24 Tryd.underlying45 hj0 hy0 hy1 hy2 rfl (by decide) u13 k _ rfl (by have := HOW.out.1; rw [HES.out] at this; exact this.alloc _) (some ⟨wr.heap.size, 0, none⟩) 1 1 [.slice (some ⟨g, 0, none⟩) N N] rfl rfl (fun h => by cases h) (fun ad e => by injection e with e; subst e; exact World.news_of_block (cs := #[.slice (some ⟨g, 0, none⟩) N N]) (t := 22) (fr := (0, 0)) (heap_alloc_new wr _)) (by simp [Value.oneCell']) (by unfold maxLen; omega) (by omega) (by have := HBW.out.size; simp; omega) ?_; intro v4 w4 hown4 hgrow4; have O4 := Lib.hid hown4; have G4 := Lib.hid hgrow4; clear hown4 hgrow4)
          have HP4 : Hid (OwnL w2.heap.size v4 (es ++ [⟨some ⟨g, 0, none⟩, N, l⟩]) w4) := OwnL.push HOW.out HMI.out ((Below.refl _ _).alloc (Nat.le_refl _) _) G4.out (by rw [HES.out, HEN.out]; exact O4.out)
          have HW4 : Hid (w4.ownsRow w2.heap.size 5 1 u14 (highL 6 (nums es) k).length (ints .u8 (highL 6 (nums es) k))) := (HWA.out.alloc _).kept G4.out (own_apart (by decide) HWA.out HOW.out.1)
          have HB4 : Hid (Below w2.heap.size w2 w4) := (HBW.out.alloc HBW.out.size _).grown G4.out (by have := HBW.out.size; simp; omega) (fun q hq => (HOW.out.1.lt q hq).1)
          have HH4 : Hid (Has .i64 w4 w4.heap.size (some ⟨g, 0, none⟩) l) := by
            have q := HP4.out.2 ⟨some ⟨g, 0, none⟩, N, l⟩ (by simp)
            exact own_read q
          clear HOW HWA HBW HMI O4 G4
          have HLB : Hid ((highL 6 (nums es) k).length ≤ 2000) := by
            show _ ≤ _
            rw [highL_len (D := 6) (M := 44) (by omega) (by omega) (by decide) k HPS.out]
            omega
          have HPL : Hid ((packI (6 : Int) l).length = 32 * 6) := (pack_low (D := 6) (M := 44) (by omega) (by omega) (by decide) HPO.out).2
          refine (pack_any 6 (some ⟨g, 0, none⟩) N N l w4 HLL.out.symm HH4.out (by rw [HLL.out]; omega)).mono ?_
          rintro e w5 ⟨A5, c5, rfl, ho5, hb5⟩
          have HO5 := Lib.hid ho5
          have HW5 := Lib.hid (own_next HW4.out hb5)
          have HP5 := Lib.hid (HP4.out.next hb5)
          have HB5 := Lib.hid (below_next HB4.out hb5)
          clear ho5 hb5 HP4 HW4 HB4 HH4
          go_wp2_with (at_builtin; refine append_any w5 rfl _ _ 23 rfl w2.heap.size 5 k0 (.int .u8 0) 1 1 Tryd.underlying23 hk0 hw0 hw1 hw2 rfl (by decide) u14 (highL 6 (nums es) k).length _ rfl HW5.out A5 (packI 6 l).length c5 (ints .u8 (packI 6 l)) rfl (by rw [ints_length, Nat.mul_one]) (fun h => own_none HO5.out h) (own_read HO5.out).cells (ints_one _ _) (by unfold maxLen; have := HLB.out; have := HPL.out; omega) (by have := HLB.out; have := HPL.out; omega) HB5.out.size ?_; intro v7 w7 hown hgr; have hb7 : Below w2.heap.size w2 w7 := HB5.out.grown hgr HB5.out.size (fun q hq => (HW5.out.lt q hq).1); have HO7 := Lib.hid hown; have HB7 := Lib.hid hb7; have HP7 := Lib.hid (HP5.out.kept5 HW5.out hgr); clear hown hgr hb7)
          have HNX : Hid (HiRow w2 44 6 (k + 1) v4 v7 (es ++ [⟨some ⟨g, 0, none⟩, N, l⟩]) w7) := by
            have hk : (nums es).length = k := by rw [nums_len]; exact HES.out
            have hlast : (nums es ++ [l]).getD k [] = l := by have := getD_last (nums es) l; rwa [hk] at this
            refine ⟨by rw [List.length_append, HES.out]; rfl, HP7.out, HAL.out, fun i hi => ?_, ?_, HB7.out⟩
            · rw [nums_push]
              by_cases e : i = k
              · subst e; rw [hlast]; exact HPO.out
              · rw [getD_push (by omega)]; exact HPS.out i (by omega)
            · have e1 : highL 6 (nums (es ++ [⟨some ⟨g, 0, none⟩, N, l⟩])) (k + 1) = highL 6 (nums es) k ++ packI 6 l := by
                rw [nums_push]
                show highL 6 (nums es ++ [l]) k ++ packI 6 ((nums es ++ [l]).getD k []) = _
                rw [highL_prefix k (fun i hi => getD_push (by omega)), hlast]
              rw [e1, List.length_append, ints_app]
              exact HO7.out
          clear HO7 HB7 HP7 HO5 HW5 HP5 HB5
          go_roundw
          case rel => exact ⟨k + 1, _, by omega, by go_num, HNX.out⟩
          case measure => simp [intOf]; omega
    · have bk : decide ((k : Int) < (K : Int)) = false := by rw [decide_eq_false_iff_not]; omega
      have e : k = K := by omega
      subst e
      obtain ⟨gB, cB, hv, hgB⟩ := own_form HR.out.2.1.1 (by have := HR.out.1; omega)
      subst hv
      obtain ⟨Au, cu, hu⟩ := own_slice HR.out.2.2.2.2.1
      subst hu
      have hek : es.length = k := HR.out.1
      have HEK := Lib.hid hek
      have e1 : es.length ≤ k := by omega
      have e2 : k ≤ es.length := by omega
      have hcap := own_cap HR.out.2.1.1
      have HSH : Hid (HighShape k 44 (nums es)) := ⟨by rw [nums_len]; exact hek, HR.out.2.2.2.1⟩
      clear hek hgB
      go_wp2_with fail
      refine (pHighG_6 (1 + t) (some ⟨gB, 0, none⟩) cB es wr HS.out HR.out.2.1.has (by omega) k (by omega) K1 x1 x2 x3 x4 x5 x6 x8 HX.out 0 (highL 6 (nums es) k) ⟨fun _ => ⟨rfl, rfl⟩, fun q => absurd HSH.out q⟩).mono ?_
      rintro e w3 ⟨Ab, cb, v3, rfl, ho3, hv3, hb3⟩
      have ev : v3 = .nilIface := by rcases hv3 with ⟨_, q⟩ | ⟨q, _⟩; exact q; exact absurd rfl q
      subst ev
      have HOL3 := Lib.hid (HR.out.2.1.next hb3)
      have HWA3 := Lib.hid (own_next HR.out.2.2.2.2.1 hb3)
      have HBB3 := Lib.hid ho3
      have HB3 := Lib.hid (below_next HR.out.2.2.2.2.2 hb3)
      have HAL := Lib.hid HR.out.2.2.1
      clear hv3 ho3 hb3 HR c0
      have q6 : ¬ cB = 1 := by omega
      have HCT : Hid (∀ m : Nat, m = es.length - 1 → Calls Tryd.prog 31 #[.int .i64 (1 + t), .slice (some ⟨gB, 1, none⟩) m (cB - 1)] w3 (ResH w3 [] 3)) := fun m hm => by
        have hl : (es.drop 1).length = m := by rw [List.length_drop]; omega
        have hh : HasL w3 w3.heap.size (some ⟨gB, 1, none⟩) (es.drop 1) := fun i hi => by
          rw [List.length_drop] at hi
          obtain ⟨⟨a, ea, hab, hac⟩, hf⟩ := HOL3.out.has (1 + i) (by omega)
          injection ea with ea
          subst ea
          rw [List.getElem_drop]
          refine ⟨⟨_, rfl, hab, ?_⟩, hf⟩
          have e3 : (⟨gB, 1, none⟩ : Addr).add i = (⟨gB, 0, none⟩ : Addr).add (1 + i) := by
            rw [← add_add]; congr 1
          rw [e3]
          exact hac
        have q := pHighG_6 (1 + t) (some ⟨gB, 1, none⟩) (cB - 1) (es.drop 1) w3 HS.out hh (by omega) k (by omega) K1 x1 x2 x3 x4 x5 x6 x8 HX.out 3 [] ⟨fun q => by have := q.1; rw [nums_len, List.length_drop] at this; omega, fun _ => ⟨rfl, rfl⟩⟩
        rw [hl] at q
        exact q
      go_wp2_with fail
      refine (HCT.out _ rfl).mono ?_
      rintro e w4 ⟨A4, c4, v4, rfl, ho4, hv4, hb4⟩
      have HV4 := Lib.hid hv4
      have HOL4 := Lib.hid (HOL3.out.next hb4)
      have HWA4 := Lib.hid (own_next HWA3.out hb4)
      have HBB4 := Lib.hid (own_next HBB3.out hb4)
      have HB4 := Lib.hid (below_next HB3.out hb4)
      clear ho4 hv4 hb4 HCT HOL3 HWA3 HBB3 HB3 q6
      go_wp2
      obtain ⟨a, ha⟩ : ∃ a : Nat, low y (k : Int) = a := ⟨(low y (k : Int)).toNat, by have := low_lo y (n := (k : Int)) (by omega); omega⟩
      have a1 : a < k := by have := low_hi y (n := (k : Int)) (by omega); omega
      obtain ⟨Y8, h8⟩ : ∃ Y8, IntKind.i64.wrap (y.tdiv 8) = Y8 := ⟨_, rfl⟩
      obtain ⟨d, hd⟩ : ∃ d : Nat, low Y8 256 = d := ⟨(low Y8 256).toNat, by have := low_lo Y8 (n := 256) (by omega); omega⟩
      have d1 : d < 256 := by have := low_hi Y8 (n := 256) (by omega); omega
      obtain ⟨r, hr⟩ : ∃ r : Nat, low z 3 = r := ⟨(low z 3).toNat, by have := low_lo z (n := 3) (by omega); omega⟩
      have r1 : r < 3 := by have := low_hi z (n := 3) (by omega); omega
      have HLA : Hid (∀ w : World, Calls Tryd.prog 25 #[.int .i64 y, .int .i64 k] w fun e w' => e = .returned (.int .i64 a) ∧ w = w') := fun w => by rw [← ha]; exact lawLow_any y k w (by omega) (by omega)
      have HLD : Hid (∀ w : World, Calls Tryd.prog 25 #[.int .i64 Y8, .int .i64 256] w fun e w' => e = .returned (.int .i64 d) ∧ w = w') := fun w => by rw [← hd]; exact lawLow_any Y8 256 w (by omega) (by omega)
      have HLR : Hid (∀ w : World, Calls Tryd.prog 25 #[.int .i64 z, .int .i64 3] w fun e w' => e = .returned (.int .i64 r) ∧ w = w') := fun w => by rw [← hr]; exact lawLow_any z 3 w (by omega) (by omega)
      have hak : a < es.length := by omega
      have hm3 : w4.ownsRow w2.heap.size 3 1 (eval es[a]) es[a].l.length (ints .i64 es[a].l) := HOL4.out.2 _ (List.getElem_mem hak)
      have hl256 : es[a].l.length = 256 := by have := (HSH.out.2 a a1).1; rwa [nums_at es hak] at this
      obtain ⟨ga, ca, hev, hgB2⟩ := own_form hm3 (by omega)
      have hAc : es[a].A = some ⟨ga, 0, none⟩ ∧ es[a].c = ca := by unfold eval at hev; injection hev with e1 _ e3; exact ⟨e1, e3⟩
      have hcell := HOL4.out.1.cellAt a (by omega)
      rw [List.getElem?_map, List.getElem?_eq_getElem hak] at hcell
      have hc4 : w4.cell? ⟨gB, a, none⟩ = some (.slice (some ⟨ga, 0, none⟩) 256 ca) := by
        have e : eval es[a] = .slice (some ⟨ga, 0, none⟩) 256 ca := by rw [hev, hl256]
        rw [hcell]; show some (eval es[a]) = _; rw [e]
      have hm4 : w4.ownsRow w2.heap.size 3 1 (.slice (some ⟨ga, 0, none⟩) es[a].l.length ca) es[a].l.length (ints .i64 es[a].l) := by
        have := hm3; rw [hev] at this; exact this
      have cI4 := own_cell hm4 (k := d) (by omega)
      have fI4 := hm4.frozenAt d
      have HAC := Lib.hid hAc
      have HM4 := Lib.hid hm4
      have HGA := Lib.hid hgB2
      have HL256 := Lib.hid hl256
      have HAK := Lib.hid hak
      clear ha hd hr hm3 hev hcell hm4 hAc hgB2 hl256
      generalize es[a].l.getD d 0 = xo at cI4
      have q1 : (0 : Int) ≤ (a : Int) := by omega
      have q2 : (a : Int) < (es.length : Int) := by omega
      have q3 : (0 : Int) ≤ (d : Int) := by omega
      have q4 : (d : Int) < 256 := by omega
      refine wp_region_still_tail 15 (by kernel_rfl) (by kernel_rfl) ?_
      change wpStill _ _ (World.drew _) (fun a' => wpList _ _ _ _ a' (World.drew _)) _ _
      generalize hW : World.drew w4 = w5
      have c50 : w5.cell? ⟨gs, 0, none⟩ = some (.int .i64 k) := by rw [← hW]; exact (HN2.out.next HB4.out).cell 0
      have hc5 : w5.cell? ⟨gB, a, none⟩ = some (.slice (some ⟨ga, 0, none⟩) 256 ca) := by rw [← hW]; exact hc4
      have cI : w5.cell? ⟨ga, d, none⟩ = some (.int .i64 xo) := by rw [← hW]; exact cI4
      have fI : w5.frozen? ⟨ga, d, none⟩ = false := by rw [← hW]; exact fI4
      have HD45 : Hid (Below w4.heap.size w4 w5) := by rw [← hW]; exact (Below.refl _ _).drew
      clear hW hc4 cI4 fI4
      simp only [List.take_succ_cons, List.take_zero, List.drop_succ_cons, List.drop_zero]
      repeat still_step
      still_call (still_eq (HLA.out _))
      repeat still_step
      still_call (still_eq (HLD.out _))
      repeat still_step
      still_call (still_eq (HLR.out _))
      repeat still_step
      refine wpStill_nil ?_
      go_wp2_with fail
      have HM5 := Lib.hid (own_next HM4.out HD45.out)
      have HP6 : Hid (OwnL w2.heap.size (.slice (some ⟨gB, 0, none⟩) es.length cB) (es.set a (es[a].put d (44 + (r : Int)))) (w5.setCell ⟨ga, d, none⟩ (.int .i64 (44 + (r : Int))))) := (HOL4.out.next HD45.out).put HAL.out HAK.out HAC.out.1 d _
      have HA6 : Hid (Alone (es.set a (es[a].put d (44 + (r : Int))))) := HAL.out.put HAK.out d _
      have HWA6 : Hid ((w5.setCell ⟨ga, d, none⟩ (.int .i64 (44 + (r : Int)))).ownsRow w2.heap.size 5 1 (.slice Au (highL 6 (nums es) k).length cu) (highL 6 (nums es) k).length (ints .u8 (highL 6 (nums es) k))) := own5_put (own_next HWA4.out HD45.out) HM5.out d _
      have HBB6 : Hid ((w5.setCell ⟨ga, d, none⟩ (.int .i64 (44 + (r : Int)))).ownsRow wr.heap.size 5 1 (.slice Ab (highL 6 (nums es) k).length cb) (highL 6 (nums es) k).length (ints .u8 (highL 6 (nums es) k))) := own5_put (own_next HBB4.out HD45.out) HM5.out d _
      have HV6 : Hid (IsH 3 v4 (w5.setCell ⟨ga, d, none⟩ (.int .i64 (44 + (r : Int))))) := (HV4.out.next HD45.out).put HM5.out d _
      have HB6 : Hid (Below w2.heap.size w2 (w5.setCell ⟨ga, d, none⟩ (.int .i64 (44 + (r : Int))))) := (below_next HB4.out HD45.out).setCell HGA.out _
      have HBAD6 : Hid (¬ HighShape k 44 (nums (es.set a (es[a].put d (44 + (r : Int)))))) := put_bad HAK.out a1 d1 HL256.out (by omega)
      have HSL : Hid ((es.set a (es[a].put d (44 + (r : Int)))).length = es.length) := List.length_set
      have HLL6 : Hid (∀ i (h : i < (es.set a (es[a].put d (44 + (r : Int)))).length), (es.set a (es[a].put d (44 + (r : Int))))[i].l.length = 256) := fun i hi => by
        have hi' : i < es.length := by rw [List.length_set] at hi; exact hi
        have hq := (HSH.out.2 i (by omega)).1
        rw [nums_at es hi'] at hq
        rw [List.getElem_set]
        split
        · next e => subst e; show (es[a].l.set d _).length = 256; rw [List.length_set]; exact hq
        · exact hq
      generalize es.set a (es[a].put d (44 + (r : Int))) = fs at HP6 HA6 HBAD6 HSL HLL6
      generalize w5.setCell ⟨ga, d, none⟩ (.int .i64 (44 + (r : Int))) = w6 at HP6 HWA6 HBB6 HV6 HB6 ⊢
      clear HM4 HM5 HOL4 HWA4 HBB4 HB4 HV4 c50 hc5 cI fI HD45 HLA HLD HLR HAC HGA q1 q2 q3 q4
      have HC6 : Hid (∀ m : Nat, m = es.length → Calls Tryd.prog 31 #[.int .i64 (1 + t), .slice (some ⟨gB, 0, none⟩) m cB] w6 (ResH w6 [] 3)) := fun m hm => by
        have hm' : m = fs.length := by rw [hm, HSL.out]
        subst hm'
        have hol : OwnL w2.heap.size (.slice (some ⟨gB, 0, none⟩) fs.length cB) fs w6 := by have := HP6.out; rw [← HSL.out] at this; exact this
        exact pHighG_6 (1 + t) (some ⟨gB, 0, none⟩) cB fs w6 HS.out hol.has (by omega) k (by omega) K1 x1 x2 x3 x4 x5 x6 x8 HX.out 3 [] ⟨fun q => absurd q HBAD6.out, fun _ => ⟨rfl, rfl⟩⟩
      refine (HC6.out _ rfl).mono ?_
      rintro e w7 ⟨A7, c7, v7, rfl, ho7, hv7, hb7⟩
      have HV7 := Lib.hid hv7
      have HV67 := Lib.hid (HV6.out.next hb7)
      have HOL7 := Lib.hid (HP6.out.next hb7)
      have HWA7 := Lib.hid (own_next HWA6.out hb7)
      have HBB7 := Lib.hid (own_next HBB6.out hb7)
      have HB7 := Lib.hid (below_next HB6.out hb7)
      clear ho7 hv7 hb7 HC6 HP6 HWA6 HBB6 HB6 HV6
      have f0 : 0 < fs.length := by have := HSL.out; omega
      obtain ⟨g0, c0', hA0, hg0, hc0, hm0⟩ := list_at HOL7.out HSL.out.symm f0 (HLL6.out 0 f0)
      have cI := own_cell hm0 (k := 0) (by have := HLL6.out 0 f0; omega)
      have fI := hm0.frozenAt 0
      have HM0 := Lib.hid hm0
      have HG0 := Lib.hid hg0
      have HAA := Lib.hid hA0
      have HF0 := Lib.hid f0
      clear hm0 hg0 hA0
      generalize fs[0].l.getD 0 0 = xo at cI
      go_wp2_with fail
      have HP8 : Hid (OwnL w2.heap.size (.slice (some ⟨gB, 0, none⟩) es.length cB) (fs.set 0 (fs[0].put 0 (-1))) (w7.setCell ⟨g0, 0, none⟩ (.int .i64 (-1)))) := HOL7.out.put HA6.out HF0.out HAA.out 0 _
      have HWA8 : Hid ((w7.setCell ⟨g0, 0, none⟩ (.int .i64 (-1))).ownsRow w2.heap.size 5 1 (.slice Au (highL 6 (nums es) k).length cu) (highL 6 (nums es) k).length (ints .u8 (highL 6 (nums es) k))) := own5_put HWA7.out HM0.out 0 _
      have HBB8 : Hid ((w7.setCell ⟨g0, 0, none⟩ (.int .i64 (-1))).ownsRow wr.heap.size 5 1 (.slice Ab (highL 6 (nums es) k).length cb) (highL 6 (nums es) k).length (ints .u8 (highL 6 (nums es) k))) := own5_put HBB7.out HM0.out 0 _
      have HV8 : Hid (IsH 3 v7 (w7.setCell ⟨g0, 0, none⟩ (.int .i64 (-1)))) := HV7.out.put HM0.out 0 _
      have HV48 : Hid (IsH 3 v4 (w7.setCell ⟨g0, 0, none⟩ (.int .i64 (-1)))) := HV67.out.put HM0.out 0 _
      have HB8 : Hid (Below w2.heap.size w2 (w7.setCell ⟨g0, 0, none⟩ (.int .i64 (-1)))) := HB7.out.setCell HG0.out _
      have HBAD8 : Hid (¬ HighShape k 44 (nums (fs.set 0 (fs[0].put 0 (-1))))) := put_bad HF0.out (by omega) (by omega) (HLL6.out 0 HF0.out) (by omega)
      have HSL8 : Hid ((fs.set 0 (fs[0].put 0 (-1))).length = es.length) := by show List.length _ = _; rw [List.length_set]; exact HSL.out
      generalize fs.set 0 (fs[0].put 0 (-1)) = hs at HP8 HBAD8 HSL8
      generalize w7.setCell ⟨g0, 0, none⟩ (.int .i64 (-1)) = w8 at HP8 HWA8 HBB8 HV8 HV48 HB8 ⊢
      clear HOL7 HWA7 HBB7 HB7 HV7 HV67 HM0 HG0 HAA hc0 cI fI HBAD6 HA6 HLL6
      have HC8 : Hid (∀ m : Nat, m = es.length → Calls Tryd.prog 31 #[.int .i64 (1 + t), .slice (some ⟨gB, 0, none⟩) m cB] w8 (ResH w8 [] 3)) := fun m hm => by
        have hm' : m = hs.length := by rw [hm, HSL8.out]
        subst hm'
        have hol : OwnL w2.heap.size (.slice (some ⟨gB, 0, none⟩) hs.length cB) hs w8 := by have := HP8.out; rw [← HSL8.out] at this; exact this
        exact pHighG_6 (1 + t) (some ⟨gB, 0, none⟩) cB hs w8 HS.out hol.has (by omega) k (by omega) K1 x1 x2 x3 x4 x5 x6 x8 HX.out 3 [] ⟨fun q => absurd q HBAD8.out, fun _ => ⟨rfl, rfl⟩⟩
      refine (HC8.out _ rfl).mono ?_
      rintro e w9 ⟨A9, c9, v9, rfl, ho9, hv9, hb9⟩
      have HV9 := Lib.hid hv9.err
      have HV89 := Lib.hid (HV8.out.next hb9).err
      have HV49 := Lib.hid (HV48.out.next hb9).err
      have HWA9 := Lib.hid (own_next HWA8.out hb9)
      have HBB9 := Lib.hid (own_next HBB8.out hb9)
      have HB9 := Lib.hid (below_next HB8.out hb9)
      clear ho9 hv9 hb9 HC8 HP8 HWA8 HBB8 HB8 HV8 HV48 HBAD8
      have c90 : w9.cell? ⟨gs, 0, none⟩ = some (.int .i64 k) := (HN2.out.next HB9.out).cell 0
      obtain ⟨L, hL⟩ : ∃ L, L = (highL 6 (nums es) k).length := ⟨_, rfl⟩
      have hLL : L = 32 * 6 * k := by rw [hL]; exact highL_len (D := 6) (M := 44) (by omega) (by omega) (by decide) k HSH.out.2
      have HLE := Lib.hid hL
      have L1 : L ≤ 32 * 6 * k := by omega
      have L2 : 32 * 6 * k ≤ L := by omega
      have teq : ((L : Int) == 192 * (k : Int)) = true := by rw [beq_iff_eq]; omega
      rw [← hL]
      clear hL hLL
      go_wp2_with fail
      refine (sameB_eq Ab Au cb cu L L (highL 6 (nums es) k) (highL 6 (nums es) k) w9 rfl HLE.out HLE.out (by rw [← HLE.out]; omega) (by have := HBB9.out; exact own_read this) (by have := HWA9.out; exact own_read this)).mono ?_
      rintro e wa ⟨rfl, hba⟩
      have HBa := Lib.hid (below_next HB9.out hba)
      have HVa4 := Lib.hid (HV49.out.next hba)
      have HVa8 := Lib.hid (HV89.out.next hba)
      have HVa9 := Lib.hid (HV9.out.next hba)
      clear hba HB9 HV49 HV89 HV9 c90
      go_wp2_with fail
      refine (num_any 3 v4 wa (HG.out.below (below_next HB2.out HBa.out)) HVa4.out).mono ?_
      rintro e wb ⟨rfl, hbb⟩
      have HBb := Lib.hid (below_next HBa.out hbb)
      have HVb8 := Lib.hid (HVa8.out.next hbb)
      have HVb9 := Lib.hid (HVa9.out.next hbb)
      clear hbb HBa HVa4 HVa8 HVa9
      go_wp2_with fail
      refine (num_any 3 v7 wb (HG.out.below (below_next HB2.out HBb.out)) HVb8.out).mono ?_
      rintro e wc ⟨rfl, hbc⟩
      have HBc := Lib.hid (below_next HBb.out hbc)
      have HVc9 := Lib.hid (HVb9.out.next hbc)
      clear hbc HBb HVb8 HVb9
      go_wp2_with fail
      refine (num_any 3 v9 wc (HG.out.below (below_next HB2.out HBc.out)) HVc9.out).mono ?_
      rintro e wd ⟨rfl, hbd⟩
      have HBd := Lib.hid (below_next HB2.out (below_next HBc.out hbd))
      clear hbd HBc HVc9
      go_wp2_with (go_at_call 8; refine (awake_any layOk _ (HG.out.below HBd.out)).mono ?_; rintro e we ⟨rfl, hbe⟩; have HBe := Lib.hid (below_next HBd.out hbe); clear hbe)
      go_ret
      exact ⟨rfl, HBe.out⟩

set_option maxRecDepth 100000 in
set_option maxHeartbeats 8000000 in
theorem layHigh_4 (x y z t : Int) (A : Option Addr) (c : Nat) (ns : List Int) (w : World) (h : Has .i64 w w.heap.size A ns) (hn0 : 0 < ns.length) (hn : ns.length ≤ 100) (hg : Han w)
    (ht : t = low x 3) (hs : setB (1 + t) = true) (t1 : ((1 + t) == 1) = false) (K : Nat) (K0 : 4 ≤ K) (K1 : K ≤ 8) (x1 x2 x3 x4 x5 x6 x8 : Int) (hx : setV (1 + t) = #[.int .i64 K, .int .i64 x1, .int .i64 x2, .int .i64 x3, .int .i64 x4, .int .i64 x5, .int .i64 x6, .int .i64 261888, .int .i64 x8]) :
    Calls Tryd.prog 7 #[.int .i64 x, .slice A ns.length c, .int .i64 y, .int .i64 z] w fun e w' => e = .returned (.bool true) ∧ Below w.heap.size w w' := by
  obtain ⟨i0, hi0, hz0, hz1, hz2⟩ := info_parts Tryd.info3
  obtain ⟨j0, hj0, hy0, hy1, hy2⟩ := info_parts Tryd.infoInts
  obtain ⟨k0, hk0, hw0, hw1, hw2⟩ := info_parts Tryd.info5
  obtain ⟨N, hN⟩ : ∃ N : Nat, N = 256 := ⟨_, rfl⟩
  have n0 : N ≤ 256 := by omega
  have n1 : 256 ≤ N := by omega
  have tt0 : 0 ≤ t := by rw [ht]; exact low_lo x (by omega)
  have tt1 : t < 3 := by rw [ht]; exact low_hi x (by omega)
  have HLW : Hid (∀ w : World, Calls Tryd.prog 25 #[.int .i64 x, .int .i64 3] w fun e w' => e = .returned (.int .i64 t) ∧ w = w') := fun w => by rw [ht]; exact lawLow_any x 3 w (by omega) (by omega)
  have tn : ((ns.length : Int) == 0) = false := by rw [beq_eq_false_iff_ne]; omega
  have HNN := Lib.hid hN
  have HX := Lib.hid hx
  have HS := Lib.hid hs
  have H := Lib.hid h
  have HG := Lib.hid hg
  clear hx h hs hg ht hN
  go_enter Tryd.func7, Tryd.ntmps7
  go_wp2_with (first
    | (go_at_call 25; refine (HLW.out _).mono ?_; rintro e w' ⟨rfl, rfl⟩)
    | (go_at_call 13; refine (pSet_any (1 + t) _).mono ?_; rw [HX.out, HS.out]; rintro e w1 ⟨rfl, hb⟩; have HB := Lib.hid hb; clear hb))
  have hb2 : Below w.heap.size w (w1.alloc (.cells #[.int .i64 K, .int .i64 x1, .int .i64 x2, .int .i64 x3, .int .i64 x4, .int .i64 x5, .int .i64 x6, .int .i64 261888, .int .i64 x8] 30)) := HB.out.alloc HB.out.size _
  have hn2 := Nine.new w1 30 #[.int .i64 K, .int .i64 x1, .int .i64 x2, .int .i64 x3, .int .i64 x4, .int .i64 x5, .int .i64 x6, .int .i64 261888, .int .i64 x8]
  generalize w1.heap.size = gs at hn2
  generalize World.alloc _ _ = w2 at hb2 hn2 ⊢
  have H2 := Lib.hid (has_next H.out hb2)
  have HB2 := Lib.hid hb2
  have HN2 := Lib.hid hn2
  clear HB hb2 hn2 H HLW
  have c0 : w2.cell? ⟨gs, 0, none⟩ = some (.int .i64 K) := HN2.out.cell 0
  have c7 : w2.cell? ⟨gs, 7, none⟩ = some (.int .i64 261888) := HN2.out.cell 7
  go_wp2
  clear c0 c7
  have HS0 : Hid (HiRow w2 16 4 0 (.slice none 0 0) (.slice none 0 0) [] w2) := ⟨rfl, ⟨World.ownsRow_nil _ _ _ _, fun e he => by cases he⟩, alone_nil, fun i hi => by omega, World.ownsRow_nil _ _ _ _, Below.refl _ _⟩
  go_loopw [13, 14, 15] (fun v u i wr => ∃ (k : Nat) (es : List Ent), k ≤ K ∧ i = .int .i64 k ∧ HiRow w2 16 4 k v u es wr) (fun _ _ i _ => K - (intOf i).toNat)
  case atStart => exact ⟨0, [], by omega, rfl, HS0.out⟩
  case round =>
    obtain ⟨k, es, hkK, rfl, hrow⟩ := hrel
    have HR := Lib.hid hrow
    have c0 : wr.cell? ⟨gs, 0, none⟩ = some (.int .i64 K) := (HN2.out.next hrow.2.2.2.2.2).cell 0
    have hsz : w2.heap.size ≤ wr.heap.size := hrow.2.2.2.2.2.size
    clear hrow HS0
    by_cases hlt : k < K
    · have bk : decide ((k : Int) < (K : Int)) = true := by rw [decide_eq_true_iff]; omega
      go_wp2_with (at_make; refine wpList_make_full _ rfl _ _ 22 rfl wr.heap.size 3 i0 (.int .i64 0) 1 Tryd.underlying22 hi0 hz0 hz1 _ _ _ _ N rfl rfl (by omega) (by omega) (by rw [hz2]; omega) (by unfold maxLen; omega) (Nat.le_refl _) ?_; intro w3 hown hgrow; rw [made_ints] at hown; have hb3 : Below wr.heap.size wr w3 := (Below.refl _ _).grown hgrow (Nat.le_refl _) (by simp); have HO := Lib.hid hown; clear hown; have HB3 := Lib.hid hb3; clear hgrow hb3)
      have HF0 : Hid (FiRow wr wr.heap.size N 16 0 (List.replicate N 0) w3) := ⟨HO.out, fun i hi => by omega, HB3.out⟩
      clear HO HB3 c0
      obtain ⟨wo, hwo⟩ : ∃ wo, wo = wr := ⟨_, rfl⟩
      obtain ⟨g, hgg⟩ : ∃ g, g = wr.heap.size := ⟨_, rfl⟩
      have HGG : Hid (g = wo.heap.size) := by show g = wo.heap.size; rw [hwo]; exact hgg
      have HRO : Hid (HiRow w2 16 4 k u13 u14 es wo) := by rw [hwo]; exact HR.out
      have HFO : Hid (FiRow wo g N 16 0 (List.replicate N 0) w3) := by rw [hwo, hgg]; exact HF0.out
      have hsz2 : w2.heap.size ≤ wo.heap.size := by rw [hwo]; exact hsz
      rw [← hgg]
      clear HR HF0 hsz hwo hgg
      go_loopw [17] (fun i wi => ∃ (j : Nat) (l : List Int), j ≤ 256 ∧ i = .int .i64 j ∧ FiRow wo g N 16 j l wi) (fun i _ => 256 - (intOf i).toNat)
      case atStart => exact ⟨0, _, by omega, rfl, HFO.out⟩
      case round =>
        obtain ⟨j, l, hj, rfl, hrow⟩ := hrel
        have HF := Lib.hid hrow
        clear hrow HFO
        by_cases hjl : j < 256
        · have bj : decide ((j : Int) < 256) = true := by rw [decide_eq_true_iff]; omega
          have hm : j % ns.length < ns.length := Nat.mod_lt _ hn0
          obtain ⟨ad, rfl, hb, ha⟩ := H2.out (j % ns.length) hm
          have hbel : Below w2.heap.size w2 wr := below_next HRO.out.2.2.2.2.2 HF.out.2.2
          have hcell : wr.cell? (ad.add (j % ns.length)) = some (.int .i64 (ns.getD (j % ns.length) 0)) := (hbel.cell (by rw [add_block]; exact hb)).trans ha
          have hc := own_cell HF.out.1 (k := j) (by omega)
          have hf := HF.out.1.frozenAt j
          have hll := own_len HF.out.1
          have HLL := Lib.hid hll
          clear hbel ha hll
          generalize ns.getD (j % ns.length) 0 = zz at hcell
          go_wp2_with (go_at_call 25; refine (low_in _ 16 _ (by decide) (by decide)).mono ?_; rintro e w' ⟨v, rfl, v0, v1, rfl⟩)
          go_roundw
          case rel => exact ⟨j + 1, l.set j v, by omega, by go_num, own_set HF.out.1 j v, below_set HF.out.2.1 (by rw [HLL.out]; omega) v0 (by omega), HF.out.2.2.setCell (by show wo.heap.size ≤ g; have := HGG.out; omega) _⟩
          case measure => simp [intOf]; omega
        · have bj : decide ((j : Int) < 256) = false := by rw [decide_eq_false_iff_not]; omega
          have e : j = 256 := by omega
          subst e
          have hll := own_len HF.out.1
          have HPO : Hid (HighPoly 16 l) := ⟨by rw [hll]; exact HNN.out, fun i hi => HF.out.2.1 i hi⟩
          have HLL := Lib.hid hll
          clear hll
          have HEN : Hid (eval (⟨some ⟨g, 0, none⟩, N, l⟩ : Ent) = .slice (some ⟨g, 0, none⟩) N N) := by show eval _ = _; unfold eval; rw [HLL.out]
          have HOW : Hid (OwnL w2.heap.size u13 es wr) := HRO.out.2.1.next HF.out.2.2
          have HWA : Hid (wr.ownsRow w2.heap.size 5 1 u14 (highL 4 (nums es) k).length (ints .u8 (highL 4 (nums es) k))) := own_next HRO.out.2.2.2.2.1 HF.out.2.2
          have HBW : Hid (Below w2.heap.size w2 wr) := below_next HRO.out.2.2.2.2.2 HF.out.2.2
          have HES : Hid (es.length = k) := HRO.out.1
          have HMI : Hid (Mine3 w2.heap.size ⟨some ⟨g, 0, none⟩, N, l⟩ wr) := by
            show Mine3 _ _ _
            unfold Mine3
            rw [HEN.out]
            show wr.ownsRow _ _ _ _ l.length (ints .i64 l)
            rw [HLL.out]
            exact own_down HF.out.1 hsz2
          have HAL : Hid (Alone (es ++ [⟨some ⟨g, 0, none⟩, N, l⟩])) := Alone.push HRO.out.2.2.1 HRO.out.2.1 (fun q hq => by
            have e : some g = some q := hq
            injection e with e
            have := HGG.out
            omega)
          have HPS : Hid (∀ i, i < k → HighPoly 16 ((nums es).getD i [])) := HRO.out.2.2.2.1
          clear HRO HF
          go_wp2_with (at_builtin; refine append_any _ rfl (.tmp 93) (.tmp 95) 45 rfl w2.heap.size 22 j0 (.slice none 0 0) 1 24 Tryd.underlying45 hj0 hy0 hy1 hy2 rfl (by decide) u13 k _ rfl (by have := HOW.out.1; rw [HES.out] at this; exact this.alloc _) (some ⟨wr.heap.size, 0, none⟩) 1 1 [.slice (some ⟨g, 0, none⟩) N N] rfl rfl (fun h => by cases h) (fun ad e => by injection e with e; subst e; exact World.news_of_block (cs := #[.slice (some ⟨g, 0, none⟩) N N]) (t := 22) (fr := (0, 0)) (heap_alloc_new wr _)) (by simp [Value.oneCell']) (by unfold maxLen; omega) (by omega) (by have := HBW.out.size; simp; omega) ?_; intro v4 w4 hown4 hgrow4; have O4 := Lib.hid hown4; have G4 := Lib.hid hgrow4; clear hown4 hgrow4)
          have HP4 : Hid (OwnL w2.heap.size v4 (es ++ [⟨some ⟨g, 0, none⟩, N, l⟩]) w4) := OwnL.push HOW.out HMI.out ((Below.refl _ _).alloc (Nat.le_refl _) _) G4.out (by rw [HES.out, HEN.out]; exact O4.out)
          have HW4 : Hid (w4.ownsRow w2.heap.size 5 1 u14 (highL 4 (nums es) k).length (ints .u8 (highL 4 (nums es) k))) := (HWA.out.alloc _).kept G4.out (own_apart (by decide) HWA.out HOW.out.1)
          have HB4 : Hid (Below w2.heap.size w2 w4) := (HBW.out.alloc HBW.out.size _).grown G4.out (by have := HBW.out.size; simp; omega) (fun q hq => (HOW.out.1.lt q hq).1)
          have HH4 : Hid (Has .i64 w4 w4.heap.size (some ⟨g, 0, none⟩) l) := by
            have q := HP4.out.2 ⟨some ⟨g, 0, none⟩, N, l⟩ (by simp)
            exact own_read q
          clear HOW HWA HBW HMI O4 G4
          have HLB : Hid ((highL 4 (nums es) k).length ≤ 2000) := by
            show _ ≤ _
            rw [highL_len (D := 4) (M := 16) (by omega) (by omega) (by decide) k HPS.out]
            omega
          have HPL : Hid ((packI (4 : Int) l).length = 32 * 4) := (pack_low (D := 4) (M := 16) (by omega) (by omega) (by decide) HPO.out).2
          refine (pack_any 4 (some ⟨g, 0, none⟩) N N l w4 HLL.out.symm HH4.out (by rw [HLL.out]; omega)).mono ?_
          rintro e w5 ⟨A5, c5, rfl, ho5, hb5⟩
          have HO5 := Lib.hid ho5
          have HW5 := Lib.hid (own_next HW4.out hb5)
          have HP5 := Lib.hid (HP4.out.next hb5)
          have HB5 := Lib.hid (below_next HB4.out hb5)
          clear ho5 hb5 HP4 HW4 HB4 HH4
          go_wp2_with (at_builtin; refine append_any w5 rfl _ _ 23 rfl w2.heap.size 5 k0 (.int .u8 0) 1 1 Tryd.underlying23 hk0 hw0 hw1 hw2 rfl (by decide) u14 (highL 4 (nums es) k).length _ rfl HW5.out A5 (packI 4 l).length c5 (ints .u8 (packI 4 l)) rfl (by rw [ints_length, Nat.mul_one]) (fun h => own_none HO5.out h) (own_read HO5.out).cells (ints_one _ _) (by unfold maxLen; have := HLB.out; have := HPL.out; omega) (by have := HLB.out; have := HPL.out; omega) HB5.out.size ?_; intro v7 w7 hown hgr; have hb7 : Below w2.heap.size w2 w7 := HB5.out.grown hgr HB5.out.size (fun q hq => (HW5.out.lt q hq).1); have HO7 := Lib.hid hown; have HB7 := Lib.hid hb7; have HP7 := Lib.hid (HP5.out.kept5 HW5.out hgr); clear hown hgr hb7)
          have HNX : Hid (HiRow w2 16 4 (k + 1) v4 v7 (es ++ [⟨some ⟨g, 0, none⟩, N, l⟩]) w7) := by
            have hk : (nums es).length = k := by rw [nums_len]; exact HES.out
            have hlast : (nums es ++ [l]).getD k [] = l := by have := getD_last (nums es) l; rwa [hk] at this
            refine ⟨by rw [List.length_append, HES.out]; rfl, HP7.out, HAL.out, fun i hi => ?_, ?_, HB7.out⟩
            · rw [nums_push]
              by_cases e : i = k
              · subst e; rw [hlast]; exact HPO.out
              · rw [getD_push (by omega)]; exact HPS.out i (by omega)
            · have e1 : highL 4 (nums (es ++ [⟨some ⟨g, 0, none⟩, N, l⟩])) (k + 1) = highL 4 (nums es) k ++ packI 4 l := by
                rw [nums_push]
                show highL 4 (nums es ++ [l]) k ++ packI 4 ((nums es ++ [l]).getD k []) = _
                rw [highL_prefix k (fun i hi => getD_push (by omega)), hlast]
              rw [e1, List.length_append, ints_app]
              exact HO7.out
          clear HO7 HB7 HP7 HO5 HW5 HP5 HB5
          go_roundw
          case rel => exact ⟨k + 1, _, by omega, by go_num, HNX.out⟩
          case measure => simp [intOf]; omega
    · have bk : decide ((k : Int) < (K : Int)) = false := by rw [decide_eq_false_iff_not]; omega
      have e : k = K := by omega
      subst e
      obtain ⟨gB, cB, hv, hgB⟩ := own_form HR.out.2.1.1 (by have := HR.out.1; omega)
      subst hv
      obtain ⟨Au, cu, hu⟩ := own_slice HR.out.2.2.2.2.1
      subst hu
      have hek : es.length = k := HR.out.1
      have HEK := Lib.hid hek
      have e1 : es.length ≤ k := by omega
      have e2 : k ≤ es.length := by omega
      have hcap := own_cap HR.out.2.1.1
      have HSH : Hid (HighShape k 16 (nums es)) := ⟨by rw [nums_len]; exact hek, HR.out.2.2.2.1⟩
      clear hek hgB
      go_wp2_with fail
      refine (pHighG_4 (1 + t) (some ⟨gB, 0, none⟩) cB es wr HS.out HR.out.2.1.has (by omega) k (by omega) K1 x1 x2 x3 x4 x5 x6 x8 HX.out 0 (highL 4 (nums es) k) ⟨fun _ => ⟨rfl, rfl⟩, fun q => absurd HSH.out q⟩).mono ?_
      rintro e w3 ⟨Ab, cb, v3, rfl, ho3, hv3, hb3⟩
      have ev : v3 = .nilIface := by rcases hv3 with ⟨_, q⟩ | ⟨q, _⟩; exact q; exact absurd rfl q
      subst ev
      have HOL3 := Lib.hid (HR.out.2.1.next hb3)
      have HWA3 := Lib.hid (own_next HR.out.2.2.2.2.1 hb3)
      have HBB3 := Lib.hid ho3
      have HB3 := Lib.hid (below_next HR.out.2.2.2.2.2 hb3)
      have HAL := Lib.hid HR.out.2.2.1
      clear hv3 ho3 hb3 HR c0
      have q6 : ¬ cB = 1 := by omega
      have HCT : Hid (∀ m : Nat, m = es.length - 1 → Calls Tryd.prog 31 #[.int .i64 (1 + t), .slice (some ⟨gB, 1, none⟩) m (cB - 1)] w3 (ResH w3 [] 3)) := fun m hm => by
        have hl : (es.drop 1).length = m := by rw [List.length_drop]; omega
        have hh : HasL w3 w3.heap.size (some ⟨gB, 1, none⟩) (es.drop 1) := fun i hi => by
          rw [List.length_drop] at hi
          obtain ⟨⟨a, ea, hab, hac⟩, hf⟩ := HOL3.out.has (1 + i) (by omega)
          injection ea with ea
          subst ea
          rw [List.getElem_drop]
          refine ⟨⟨_, rfl, hab, ?_⟩, hf⟩
          have e3 : (⟨gB, 1, none⟩ : Addr).add i = (⟨gB, 0, none⟩ : Addr).add (1 + i) := by
            rw [← add_add]; congr 1
          rw [e3]
          exact hac
        have q := pHighG_4 (1 + t) (some ⟨gB, 1, none⟩) (cB - 1) (es.drop 1) w3 HS.out hh (by omega) k (by omega) K1 x1 x2 x3 x4 x5 x6 x8 HX.out 3 [] ⟨fun q => by have := q.1; rw [nums_len, List.length_drop] at this; omega, fun _ => ⟨rfl, rfl⟩⟩
        rw [hl] at q
        exact q
      go_wp2_with fail
      refine (HCT.out _ rfl).mono ?_
      rintro e w4 ⟨A4, c4, v4, rfl, ho4, hv4, hb4⟩
      have HV4 := Lib.hid hv4
      have HOL4 := Lib.hid (HOL3.out.next hb4)
      have HWA4 := Lib.hid (own_next HWA3.out hb4)
      have HBB4 := Lib.hid (own_next HBB3.out hb4)
      have HB4 := Lib.hid (below_next HB3.out hb4)
      clear ho4 hv4 hb4 HCT HOL3 HWA3 HBB3 HB3 q6
      go_wp2
      obtain ⟨a, ha⟩ : ∃ a : Nat, low y (k : Int) = a := ⟨(low y (k : Int)).toNat, by have := low_lo y (n := (k : Int)) (by omega); omega⟩
      have a1 : a < k := by have := low_hi y (n := (k : Int)) (by omega); omega
      obtain ⟨Y8, h8⟩ : ∃ Y8, IntKind.i64.wrap (y.tdiv 8) = Y8 := ⟨_, rfl⟩
      obtain ⟨d, hd⟩ : ∃ d : Nat, low Y8 256 = d := ⟨(low Y8 256).toNat, by have := low_lo Y8 (n := 256) (by omega); omega⟩
      have d1 : d < 256 := by have := low_hi Y8 (n := 256) (by omega); omega
      obtain ⟨r, hr⟩ : ∃ r : Nat, low z 3 = r := ⟨(low z 3).toNat, by have := low_lo z (n := 3) (by omega); omega⟩
      have r1 : r < 3 := by have := low_hi z (n := 3) (by omega); omega
      have HLA : Hid (∀ w : World, Calls Tryd.prog 25 #[.int .i64 y, .int .i64 k] w fun e w' => e = .returned (.int .i64 a) ∧ w = w') := fun w => by rw [← ha]; exact lawLow_any y k w (by omega) (by omega)
      have HLD : Hid (∀ w : World, Calls Tryd.prog 25 #[.int .i64 Y8, .int .i64 256] w fun e w' => e = .returned (.int .i64 d) ∧ w = w') := fun w => by rw [← hd]; exact lawLow_any Y8 256 w (by omega) (by omega)
      have HLR : Hid (∀ w : World, Calls Tryd.prog 25 #[.int .i64 z, .int .i64 3] w fun e w' => e = .returned (.int .i64 r) ∧ w = w') := fun w => by rw [← hr]; exact lawLow_any z 3 w (by omega) (by omega)
      have hak : a < es.length := by omega
      have hm3 : w4.ownsRow w2.heap.size 3 1 (eval es[a]) es[a].l.length (ints .i64 es[a].l) := HOL4.out.2 _ (List.getElem_mem hak)
      have hl256 : es[a].l.length = 256 := by have := (HSH.out.2 a a1).1; rwa [nums_at es hak] at this
      obtain ⟨ga, ca, hev, hgB2⟩ := own_form hm3 (by omega)
      have hAc : es[a].A = some ⟨ga, 0, none⟩ ∧ es[a].c = ca := by unfold eval at hev; injection hev with e1 _ e3; exact ⟨e1, e3⟩
      have hcell := HOL4.out.1.cellAt a (by omega)
      rw [List.getElem?_map, List.getElem?_eq_getElem hak] at hcell
      have hc4 : w4.cell? ⟨gB, a, none⟩ = some (.slice (some ⟨ga, 0, none⟩) 256 ca) := by
        have e : eval es[a] = .slice (some ⟨ga, 0, none⟩) 256 ca := by rw [hev, hl256]
        rw [hcell]; show some (eval es[a]) = _; rw [e]
      have hm4 : w4.ownsRow w2.heap.size 3 1 (.slice (some ⟨ga, 0, none⟩) es[a].l.length ca) es[a].l.length (ints .i64 es[a].l) := by
        have := hm3; rw [hev] at this; exact this
      have cI4 := own_cell hm4 (k := d) (by omega)
      have fI4 := hm4.frozenAt d
      have HAC := Lib.hid hAc
      have HM4 := Lib.hid hm4
      have HGA := Lib.hid hgB2
      have HL256 := Lib.hid hl256
      have HAK := Lib.hid hak
      clear ha hd hr hm3 hev hcell hm4 hAc hgB2 hl256
      generalize es[a].l.getD d 0 = xo at cI4
      have q1 : (0 : Int) ≤ (a : Int) := by omega
      have q2 : (a : Int) < (es.length : Int) := by omega
      have q3 : (0 : Int) ≤ (d : Int) := by omega
      have q4 : (d : Int) < 256 := by omega
      refine wp_region_still_tail 15 (by kernel_rfl) (by kernel_rfl) ?_
      change wpStill _ _ (World.drew _) (fun a' => wpList _ _ _ _ a' (World.drew _)) _ _
      generalize hW : World.drew w4 = w5
      have c50 : w5.cell? ⟨gs, 0, none⟩ = some (.int .i64 k) := by rw [← hW]; exact (HN2.out.next HB4.out).cell 0
      have hc5 : w5.cell? ⟨gB, a, none⟩ = some (.slice (some ⟨ga, 0, none⟩) 256 ca) := by rw [← hW]; exact hc4
      have cI : w5.cell? ⟨ga, d, none⟩ = some (.int .i64 xo) := by rw [← hW]; exact cI4
      have fI : w5.frozen? ⟨ga, d, none⟩ = false := by rw [← hW]; exact fI4
      have HD45 : Hid (Below w4.heap.size w4 w5) := by rw [← hW]; exact (Below.refl _ _).drew
      clear hW hc4 cI4 fI4
      simp only [List.take_succ_cons, List.take_zero, List.drop_succ_cons, List.drop_zero]
      repeat still_step
      still_call (still_eq (HLA.out _))
      repeat still_step
      still_call (still_eq (HLD.out _))
      repeat still_step
      still_call (still_eq (HLR.out _))
      repeat still_step
      refine wpStill_nil ?_
      go_wp2_with fail
      have HM5 := Lib.hid (own_next HM4.out HD45.out)
      have HP6 : Hid (OwnL w2.heap.size (.slice (some ⟨gB, 0, none⟩) es.length cB) (es.set a (es[a].put d (16 + (r : Int)))) (w5.setCell ⟨ga, d, none⟩ (.int .i64 (16 + (r : Int))))) := (HOL4.out.next HD45.out).put HAL.out HAK.out HAC.out.1 d _
      have HA6 : Hid (Alone (es.set a (es[a].put d (16 + (r : Int))))) := HAL.out.put HAK.out d _
      have HWA6 : Hid ((w5.setCell ⟨ga, d, none⟩ (.int .i64 (16 + (r : Int)))).ownsRow w2.heap.size 5 1 (.slice Au (highL 4 (nums es) k).length cu) (highL 4 (nums es) k).length (ints .u8 (highL 4 (nums es) k))) := own5_put (own_next HWA4.out HD45.out) HM5.out d _
      have HBB6 : Hid ((w5.setCell ⟨ga, d, none⟩ (.int .i64 (16 + (r : Int)))).ownsRow wr.heap.size 5 1 (.slice Ab (highL 4 (nums es) k).length cb) (highL 4 (nums es) k).length (ints .u8 (highL 4 (nums es) k))) := own5_put (own_next HBB4.out HD45.out) HM5.out d _
      have HV6 : Hid (IsH 3 v4 (w5.setCell ⟨ga, d, none⟩ (.int .i64 (16 + (r : Int))))) := (HV4.out.next HD45.out).put HM5.out d _
      have HB6 : Hid (Below w2.heap.size w2 (w5.setCell ⟨ga, d, none⟩ (.int .i64 (16 + (r : Int))))) := (below_next HB4.out HD45.out).setCell HGA.out _
      have HBAD6 : Hid (¬ HighShape k 16 (nums (es.set a (es[a].put d (16 + (r : Int)))))) := put_bad HAK.out a1 d1 HL256.out (by omega)
      have HSL : Hid ((es.set a (es[a].put d (16 + (r : Int)))).length = es.length) := List.length_set
      have HLL6 : Hid (∀ i (h : i < (es.set a (es[a].put d (16 + (r : Int)))).length), (es.set a (es[a].put d (16 + (r : Int))))[i].l.length = 256) := fun i hi => by
        have hi' : i < es.length := by rw [List.length_set] at hi; exact hi
        have hq := (HSH.out.2 i (by omega)).1
        rw [nums_at es hi'] at hq
        rw [List.getElem_set]
        split
        · next e => subst e; show (es[a].l.set d _).length = 256; rw [List.length_set]; exact hq
        · exact hq
      generalize es.set a (es[a].put d (16 + (r : Int))) = fs at HP6 HA6 HBAD6 HSL HLL6
      generalize w5.setCell ⟨ga, d, none⟩ (.int .i64 (16 + (r : Int))) = w6 at HP6 HWA6 HBB6 HV6 HB6 ⊢
      clear HM4 HM5 HOL4 HWA4 HBB4 HB4 HV4 c50 hc5 cI fI HD45 HLA HLD HLR HAC HGA q1 q2 q3 q4
      have HC6 : Hid (∀ m : Nat, m = es.length → Calls Tryd.prog 31 #[.int .i64 (1 + t), .slice (some ⟨gB, 0, none⟩) m cB] w6 (ResH w6 [] 3)) := fun m hm => by
        have hm' : m = fs.length := by rw [hm, HSL.out]
        subst hm'
        have hol : OwnL w2.heap.size (.slice (some ⟨gB, 0, none⟩) fs.length cB) fs w6 := by have := HP6.out; rw [← HSL.out] at this; exact this
        exact pHighG_4 (1 + t) (some ⟨gB, 0, none⟩) cB fs w6 HS.out hol.has (by omega) k (by omega) K1 x1 x2 x3 x4 x5 x6 x8 HX.out 3 [] ⟨fun q => absurd q HBAD6.out, fun _ => ⟨rfl, rfl⟩⟩
      refine (HC6.out _ rfl).mono ?_
      rintro e w7 ⟨A7, c7, v7, rfl, ho7, hv7, hb7⟩
      have HV7 := Lib.hid hv7
      have HV67 := Lib.hid (HV6.out.next hb7)
      have HOL7 := Lib.hid (HP6.out.next hb7)
      have HWA7 := Lib.hid (own_next HWA6.out hb7)
      have HBB7 := Lib.hid (own_next HBB6.out hb7)
      have HB7 := Lib.hid (below_next HB6.out hb7)
      clear ho7 hv7 hb7 HC6 HP6 HWA6 HBB6 HB6 HV6
      have f0 : 0 < fs.length := by have := HSL.out; omega
      obtain ⟨g0, c0', hA0, hg0, hc0, hm0⟩ := list_at HOL7.out HSL.out.symm f0 (HLL6.out 0 f0)
      have cI := own_cell hm0 (k := 0) (by have := HLL6.out 0 f0; omega)
      have fI := hm0.frozenAt 0
      have HM0 := Lib.hid hm0
      have HG0 := Lib.hid hg0
      have HAA := Lib.hid hA0
      have HF0 := Lib.hid f0
      clear hm0 hg0 hA0
      generalize fs[0].l.getD 0 0 = xo at cI
      go_wp2_with fail
      have HP8 : Hid (OwnL w2.heap.size (.slice (some ⟨gB, 0, none⟩) es.length cB) (fs.set 0 (fs[0].put 0 (-1))) (w7.setCell ⟨g0, 0, none⟩ (.int .i64 (-1)))) := HOL7.out.put HA6.out HF0.out HAA.out 0 _
      have HWA8 : Hid ((w7.setCell ⟨g0, 0, none⟩ (.int .i64 (-1))).ownsRow w2.heap.size 5 1 (.slice Au (highL 4 (nums es) k).length cu) (highL 4 (nums es) k).length (ints .u8 (highL 4 (nums es) k))) := own5_put HWA7.out HM0.out 0 _
      have HBB8 : Hid ((w7.setCell ⟨g0, 0, none⟩ (.int .i64 (-1))).ownsRow wr.heap.size 5 1 (.slice Ab (highL 4 (nums es) k).length cb) (highL 4 (nums es) k).length (ints .u8 (highL 4 (nums es) k))) := own5_put HBB7.out HM0.out 0 _
      have HV8 : Hid (IsH 3 v7 (w7.setCell ⟨g0, 0, none⟩ (.int .i64 (-1)))) := HV7.out.put HM0.out 0 _
      have HV48 : Hid (IsH 3 v4 (w7.setCell ⟨g0, 0, none⟩ (.int .i64 (-1)))) := HV67.out.put HM0.out 0 _
      have HB8 : Hid (Below w2.heap.size w2 (w7.setCell ⟨g0, 0, none⟩ (.int .i64 (-1)))) := HB7.out.setCell HG0.out _
      have HBAD8 : Hid (¬ HighShape k 16 (nums (fs.set 0 (fs[0].put 0 (-1))))) := put_bad HF0.out (by omega) (by omega) (HLL6.out 0 HF0.out) (by omega)
      have HSL8 : Hid ((fs.set 0 (fs[0].put 0 (-1))).length = es.length) := by show List.length _ = _; rw [List.length_set]; exact HSL.out
      generalize fs.set 0 (fs[0].put 0 (-1)) = hs at HP8 HBAD8 HSL8
      generalize w7.setCell ⟨g0, 0, none⟩ (.int .i64 (-1)) = w8 at HP8 HWA8 HBB8 HV8 HV48 HB8 ⊢
      clear HOL7 HWA7 HBB7 HB7 HV7 HV67 HM0 HG0 HAA hc0 cI fI HBAD6 HA6 HLL6
      have HC8 : Hid (∀ m : Nat, m = es.length → Calls Tryd.prog 31 #[.int .i64 (1 + t), .slice (some ⟨gB, 0, none⟩) m cB] w8 (ResH w8 [] 3)) := fun m hm => by
        have hm' : m = hs.length := by rw [hm, HSL8.out]
        subst hm'
        have hol : OwnL w2.heap.size (.slice (some ⟨gB, 0, none⟩) hs.length cB) hs w8 := by have := HP8.out; rw [← HSL8.out] at this; exact this
        exact pHighG_4 (1 + t) (some ⟨gB, 0, none⟩) cB hs w8 HS.out hol.has (by omega) k (by omega) K1 x1 x2 x3 x4 x5 x6 x8 HX.out 3 [] ⟨fun q => absurd q HBAD8.out, fun _ => ⟨rfl, rfl⟩⟩
      refine (HC8.out _ rfl).mono ?_
      rintro e w9 ⟨A9, c9, v9, rfl, ho9, hv9, hb9⟩
      have HV9 := Lib.hid hv9.err
      have HV89 := Lib.hid (HV8.out.next hb9).err
      have HV49 := Lib.hid (HV48.out.next hb9).err
      have HWA9 := Lib.hid (own_next HWA8.out hb9)
      have HBB9 := Lib.hid (own_next HBB8.out hb9)
      have HB9 := Lib.hid (below_next HB8.out hb9)
      clear ho9 hv9 hb9 HC8 HP8 HWA8 HBB8 HB8 HV8 HV48 HBAD8
      have c90 : w9.cell? ⟨gs, 0, none⟩ = some (.int .i64 k) := (HN2.out.next HB9.out).cell 0
      obtain ⟨L, hL⟩ : ∃ L, L = (highL 4 (nums es) k).length := ⟨_, rfl⟩
      have hLL : L = 32 * 4 * k := by rw [hL]; exact highL_len (D := 4) (M := 16) (by omega) (by omega) (by decide) k HSH.out.2
      have HLE := Lib.hid hL
      have L1 : L ≤ 32 * 4 * k := by omega
      have L2 : 32 * 4 * k ≤ L := by omega
      have teq : ((L : Int) == 128 * (k : Int)) = true := by rw [beq_iff_eq]; omega
      rw [← hL]
      clear hL hLL
      go_wp2_with fail
      refine (sameB_eq Ab Au cb cu L L (highL 4 (nums es) k) (highL 4 (nums es) k) w9 rfl HLE.out HLE.out (by rw [← HLE.out]; omega) (by have := HBB9.out; exact own_read this) (by have := HWA9.out; exact own_read this)).mono ?_
      rintro e wa ⟨rfl, hba⟩
      have HBa := Lib.hid (below_next HB9.out hba)
      have HVa4 := Lib.hid (HV49.out.next hba)
      have HVa8 := Lib.hid (HV89.out.next hba)
      have HVa9 := Lib.hid (HV9.out.next hba)
      clear hba HB9 HV49 HV89 HV9 c90
      go_wp2_with fail
      refine (num_any 3 v4 wa (HG.out.below (below_next HB2.out HBa.out)) HVa4.out).mono ?_
      rintro e wb ⟨rfl, hbb⟩
      have HBb := Lib.hid (below_next HBa.out hbb)
      have HVb8 := Lib.hid (HVa8.out.next hbb)
      have HVb9 := Lib.hid (HVa9.out.next hbb)
      clear hbb HBa HVa4 HVa8 HVa9
      go_wp2_with fail
      refine (num_any 3 v7 wb (HG.out.below (below_next HB2.out HBb.out)) HVb8.out).mono ?_
      rintro e wc ⟨rfl, hbc⟩
      have HBc := Lib.hid (below_next HBb.out hbc)
      have HVc9 := Lib.hid (HVb9.out.next hbc)
      clear hbc HBb HVb8 HVb9
      go_wp2_with fail
      refine (num_any 3 v9 wc (HG.out.below (below_next HB2.out HBc.out)) HVc9.out).mono ?_
      rintro e wd ⟨rfl, hbd⟩
      have HBd := Lib.hid (below_next HB2.out (below_next HBc.out hbd))
      clear hbd HBc HVc9
      go_wp2_with (go_at_call 8; refine (awake_any layOk _ (HG.out.below HBd.out)).mono ?_; rintro e we ⟨rfl, hbe⟩; have HBe := Lib.hid (below_next HBd.out hbe); clear hbe)
      go_ret
      exact ⟨rfl, HBe.out⟩

theorem k_four (s : Int) : 4 ≤ kOf s := by
  unfold kOf
  split <;> (try split) <;> omega
theorem layHigh_small (x y z : Int) (A : Option Addr) (c : Nat) (ns : List Int) (w : World) (h : Has .i64 w w.heap.size A ns) (hn0 : 0 < ns.length) (hn : ns.length ≤ 100) (hg : Han w) :
    Calls Tryd.prog 7 #[.int .i64 x, .slice A ns.length c, .int .i64 y, .int .i64 z] w fun e w' => e = .returned (.bool true) ∧ Below w.heap.size w w' := by
  obtain ⟨t, ht⟩ : ∃ t, t = low x 3 := ⟨_, rfl⟩
  have t0 : 0 ≤ t := by rw [ht]; exact low_lo x (by omega)
  have t1 : t < 3 := by rw [ht]; exact low_hi x (by omega)
  have hs := set_low t0 t1
  obtain ⟨x1, x2, x3, x4, x5, x6, x8, hx⟩ := set_kg hs
  obtain ⟨_, K1, _, _⟩ := kw_bd (1 + t)
  have K0 := k_four (1 + t)
  by_cases h0 : t = 0
  · have eg : gOf (1 + t) = 95232 := by unfold gOf; rw [if_pos (by omega)]
    rw [eg] at hx
    exact layHigh_6 x y z t A c ns w h hn0 hn hg ht hs (by rw [beq_iff_eq]; omega) (kOf (1 + t)) K0 K1 x1 x2 x3 x4 x5 x6 x8 hx
  · have eg : gOf (1 + t) = 261888 := by unfold gOf; rw [if_neg (by omega)]
    rw [eg] at hx
    exact layHigh_4 x y z t A c ns w h hn0 hn hg ht hs (by rw [beq_eq_false_iff_ne]; omega) (kOf (1 + t)) K0 K1 x1 x2 x3 x4 x5 x6 x8 hx
end Go.Proofs.YtoigpehpgpogfaaDoor

