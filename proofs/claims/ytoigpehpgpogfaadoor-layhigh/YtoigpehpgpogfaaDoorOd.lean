/- Several texts in one: Nn, Np, Nl, Nt. -/
import Derived.Test.YtoigpehpgpogfaaDoorOb
import Derived.Test.YtoigpehpgpogfaaDoorOc
import Derived.Test.YtoigpehpgpogfaaDoorNh
import Derived.Laws.BitsAllLaws
/- Contract: the program's polys at places, each up to its end. -/
namespace Go.Proofs.YtoigpehpgpogfaaDoor
open Go.RowKit Slices Go.Proofs.YtoigpehpgpogfaaDoor.Bit

def nilE : Ent := ⟨none, 0, []⟩
theorem make_lists (N : Nat) (hN : N ≤ 4000) : ∃ Z : Array Value, Z.toList = (List.replicate N nilE).map eval ∧ Z.size = N ∧ ∀ w : World, (Instr.makeSlice 45 (.int .i64 N) (.int .i64 N)).run Tryd.prog w = .ok (.slice (some ⟨w.heap.size, 0, none⟩) N N) (w.alloc (.cells Z 22)) := by
  obtain ⟨i0, hi0, hz0, hz1, hz2⟩ := info_parts Tryd.infoInts
  refine ⟨madeCells (Value.slice none 0 0).cells (N * 1), ?_, by rw [size_madeCells, Nat.mul_one], fun w => ?_⟩
  · rw [Nat.mul_one]
    show (madeCells #[Value.slice none 0 0] N).toList = _
    rw [toList_madeCells_one]; simp [eval, nilE]
  · have := run_make (P := Tryd.prog) w 45 22 i0 (.slice none 0 0) Tryd.underlying45 hi0 hz0 .i64 .i64 N N (by omega) (by omega) (by rw [hz2]; omega) (by omega)
    rw [hz1] at this
    exact this
theorem nil_mine (B : Nat) (w : World) : Mine3 B nilE w := World.ownsRow_nil _ _ _ _
theorem lists_own {w : World} {N : Nat} {Z : Array Value} (hZ : Z.toList = (List.replicate N nilE).map eval) (hs : Z.size = N) (hN : N ≤ 4000) (h0 : 0 < N) :
    OwnL w.heap.size (.slice (some ⟨w.heap.size, 0, none⟩) N N) (List.replicate N nilE) (w.alloc (.cells Z 22)) := by
  refine ⟨?_, fun e he => ?_⟩
  · rw [List.length_replicate, ← hZ]; exact World.ownsRow_lit w Z N (Nat.le_refl _) (by unfold maxLen; omega) (by omega)
  · rw [(List.mem_replicate.1 he).2]; exact nil_mine _ _
theorem alone_nils (N : Nat) : Alone (List.replicate N nilE) := fun i j hi hj _ => .inl (by rw [List.getElem_replicate]; rfl)

/-- a list is put in -/
theorem OwnL.store {B g n c : Nat} {es : List Ent} {w : World} {e : Ent} (h : OwnL B (.slice (some ⟨g, 0, none⟩) n c) es w) (he : Mine3 B e w) (k : Nat) (hn : n = es.length) :
    OwnL B (.slice (some ⟨g, 0, none⟩) n c) (es.set k e) (w.setCell ⟨g, k, none⟩ (eval e)) := by
  subst hn
  refine ⟨?_, fun x hx => ?_⟩
  · have := (h.1.stored k (eval e)).1
    rw [List.length_set, List.map_set]
    exact this
  · have hm : Mine3 B x w := by
      rcases List.mem_or_eq_of_mem_set hx with q | q
      · exact h.2 x q
      · rw [q]; exact he
    exact hm.kept (grown_set w g k (eval e)) (own_ne hm h.1)
theorem Alone.store {es : List Ent} (h : Alone es) {k : Nat} {e : Ent} (h1 : ∀ i (hi : i < es.length), i ≠ k → ((eval es[i]).ownBlock = none ∨ (eval es[i]).ownBlock ≠ (eval e).ownBlock) ∧ ((eval e).ownBlock = none ∨ (eval e).ownBlock ≠ (eval es[i]).ownBlock)) : Alone (es.set k e) := fun i j hi hj hne => by
  rw [List.length_set] at hi hj
  rw [List.getElem_set, List.getElem_set]
  by_cases e1 : k = i
  · subst e1
    rw [if_pos rfl, if_neg hne]
    exact (h1 j hj (fun q => hne q.symm)).2
  · rw [if_neg e1]
    by_cases e2 : k = j
    · subst e2
      rw [if_pos rfl]
      exact (h1 i hi hne).1
    · rw [if_neg e2]
      exact h i j hi hj hne
theorem getD_drop (l : List Int) (n k : Nat) : (l.drop n).getD k 0 = l.getD (n + k) 0 := by
  rw [List.getD_eq_getElem?_getD, List.getElem?_drop, ← List.getD_eq_getElem?_getD]
theorem add_add (a : Addr) (n m : Nat) : (a.add n).add m = a.add (n + m) := by
  obtain ⟨b, o, s⟩ := a
  unfold Addr.add
  by_cases h1 : n = 0
  · subst h1; simp
  · by_cases h2 : m = 0
    · subst h2; simp [h1]
    · simp [h1, h2]
      omega
/-- a part of what a slice reads as -/
theorem has_part {κ : IntKind} {w : World} {B : Nat} {a : Addr} {l : List Int} (h : Has κ w B (some a) l) (lo hi : Nat) (hh : hi ≤ l.length) (hl : lo ≤ hi) : Has κ w B (some (a.add lo)) (piece l lo hi) := fun k hk => by
  rw [piece_len hh hl] at hk
  obtain ⟨a', e, hb, hc⟩ := h (lo + k) (by omega)
  injection e with e
  subst e
  refine ⟨_, rfl, by rw [add_block]; exact hb, ?_⟩
  rw [add_add, piece_at hk]
  exact hc

theorem piece_take {b : List Int} {lo hi W : Nat} (h : hi ≤ W) : piece (b.take W) lo hi = piece b lo hi := by
  unfold piece
  rw [List.drop_take, List.take_take, Nat.min_eq_left (by omega)]
/-- the polys of the first k ends stand in the list of lists -/
def PsRow (w : World) (W K : Nat) (b : List Int) (g k : Nat) (wr : World) : Prop :=
  ∃ es : List Ent, OwnL w.heap.size (.slice (some ⟨g, 0, none⟩) K K) es wr ∧ es.length = K ∧ Alone es ∧ (∀ i (h : i < es.length), i < k → es[i].l = mark b (stop W b i) (stop W b (i + 1) - stop W b i)) ∧ Below w.heap.size w wr ∧ ∀ i, i < k → Good1 W b i

set_option maxRecDepth 100000 in
set_option maxHeartbeats 4000000 in
theorem polysAt_any (a a2 : Addr) (c c2 K W : Nat) (b : List Int) (w : World) (hlen : b.length = W + K) (hc : W + 1 ≤ c) (_hc2 : K ≤ c2) (h : Has .u8 w w.heap.size (some a) (b.take W)) (h2 : Has .u8 w w.heap.size (some a2) (b.drop W)) (hf : Fit 8 b) (K0 : 1 ≤ K) (K1 : K ≤ 8) (W0 : 55 ≤ W) (W1 : W ≤ 80) :
    Calls Tryd.prog 66 #[.slice (some a) W c, .slice (some a2) K c2] w fun e w' =>
      (GoodAll K W b ∧ ∃ g es, e = .returned (.tuple #[.slice (some ⟨g, 0, none⟩) K K, .bool true]) ∧ es.length = K ∧ OwnL w.heap.size (.slice (some ⟨g, 0, none⟩) K K) es w' ∧ Alone es ∧ nums es = readL W b K ∧ Below w.heap.size w w') ∨
      (¬ GoodAll K W b ∧ e = .returned (.tuple #[.slice none 0 0, .bool false]) ∧ Below w.heap.size w w') := by
  obtain ⟨Z, z1, s1, m1⟩ := make_lists K (by omega)
  have HS : Hid (PsRow w W K b w.heap.size 0 (w.alloc (.cells Z 22))) := ⟨_, lists_own z1 s1 (by omega) (by omega), List.length_replicate, alone_nils _, fun i _ hi => by omega, (Below.refl _ _).alloc (Nat.le_refl _) _, fun i hi => by omega⟩
  have H := Lib.hid h
  have H2 := Lib.hid h2
  have HF := Lib.hid hf
  have HLEN := Lib.hid hlen
  clear h h2 hf hlen z1 s1
  go_enter Tryd.func66, Tryd.ntmps66
  go_wp2
  generalize hg : w.heap.size = g at HS
  have HGG := Lib.hid hg
  clear hg
  go_loopw [7, 20] (fun r i wr => ∃ k : Nat, k ≤ K ∧ i = .int .i64 k ∧ r = .int .i64 (stop W b k) ∧ PsRow w W K b g k wr) (fun _ i _ => K - (intOf i).toNat)
  case atStart => exact ⟨0, by omega, rfl, rfl, HS.out⟩
  case round =>
    obtain ⟨k, hk, rfl, rfl, hrow⟩ := hrel
    obtain ⟨es, ho, hel, hal, hls, hb, hgd⟩ := hrow
    have HO := Lib.hid ho
    have HEL := Lib.hid hel
    have HAL := Lib.hid hal
    have HLS := Lib.hid hls
    have HB := Lib.hid hb
    have HGD := Lib.hid hgd
    have hsw := stop_le hgd k (Nat.le_refl _)
    clear ho hel hal hls hb hgd HS
    by_cases hlt : k < K
    · obtain ⟨a', ea, _, hac⟩ := (H2.out.below HB.out) k (by rw [List.length_drop]; have := HLEN.out; omega)
      injection ea with ea
      subst ea
      rw [getD_drop] at hac
      obtain ⟨x0, x1⟩ := HF.out (W + k) (by have := HLEN.out; omega)
      have hnn : stop W b (k + 1) = (b.getD (W + k) 0).toNat := rfl
      have hX : b.getD (W + k) 0 = (stop W b (k + 1) : Nat) := by omega
      have x2 : stop W b (k + 1) < 256 := by have : (2 : Int) ^ 8 = 256 := by decide
                                             omega
      rw [hX] at hac
      obtain ⟨S, hS⟩ : ∃ S, S = stop W b k := ⟨_, rfl⟩
      obtain ⟨T, hT⟩ : ∃ T, T = stop W b (k + 1) := ⟨_, rfl⟩
      rw [← hS] at hsw
      rw [← hS]
      rw [← hT] at hac x2
      have HSS := Lib.hid hS
      have HTT := Lib.hid hT
      clear hnn hX x0 x1 hS hT
      by_cases hb1 : T < S
      · have HNO : Hid (¬ GoodAll K W b) := fun q => by
          have := (q.1 k hlt).1
          rw [← HSS.out, ← HTT.out] at this
          omega
        go_wp2
        go_ret2
        exact .inr ⟨HNO.out, rfl, HB.out⟩
      · by_cases hb2 : W < T
        · have HNO : Hid (¬ GoodAll K W b) := fun q => by
            have := (q.1 k hlt).2.1
            rw [← HTT.out] at this
            omega
          go_wp2
          go_ret2
          exact .inr ⟨HNO.out, rfl, HB.out⟩
        · have t1 : S ≤ T := by omega
          have t2 : T ≤ W := by omega
          have s1 : ¬ c = S := by omega
          have hpl : (piece b S T).length = T - S := piece_len (by have := HLEN.out; omega) t1
          have HPL := Lib.hid hpl
          have HPC : Hid (Has .u8 wr wr.heap.size (some (a.add S)) (piece b S T)) := by
            have q := has_part ((H.out.below HB.out).mono HB.out.size) S T (by rw [List.length_take]; have := HLEN.out; omega) t1
            rw [piece_take t2] at q
            exact q
          have HPF : Hid (Fit 8 (piece b S T)) := fit_piece HF.out (by have := HLEN.out; omega) t1
          clear hpl
          go_wp2_with fail
          refine (polyAt_any (some (a.add S)) (c - S) (T - S) (piece b S T) wr HPL.out.symm HPC.out HPF.out (by rw [HPL.out]; omega)).mono ?_
          rintro e w2 hy
          rcases hy with ⟨hri, g2, rfl, ho2, hb2⟩ | ⟨hno, rfl, hb2⟩
          · have HG1 : Hid (Good1 W b k) := by
              show stop W b k ≤ stop W b (k + 1) ∧ stop W b (k + 1) ≤ W ∧ Rise (piece b (stop W b k) (stop W b (k + 1)))
              rw [← HSS.out, ← HTT.out]
              exact ⟨t1, t2, hri⟩
            have hmk : mark (piece b S T) 0 (piece b S T).length = mark b S (T - S) := by rw [HPL.out]; exact mark_piece _ (Nat.le_refl _)
            rw [hmk] at ho2
            have hge := (own_block ho2).1
            have HGE := Lib.hid hge
            have HO2 := Lib.hid (own_down ho2 HB.out.size)
            have HB2 := Lib.hid hb2
            have HON := Lib.hid (HO.out.next hb2)
            obtain ⟨v0, hv0⟩ := own_spare (by have := HON.out.1; rw [HEL.out] at this; exact this) (k := k) hlt
            have fX := (show w2.ownsRow w.heap.size 22 1 (.slice (some ⟨g, 0, none⟩) K K) K (es.map eval) by have := HON.out.1; rw [HEL.out] at this; exact this).frozenAt k
            have HNX : Hid (PsRow w W K b g (k + 1) (w2.setCell ⟨g, k, none⟩ (.slice (some ⟨g2, 0, none⟩) 256 256))) := by
              have hev : eval (⟨some ⟨g2, 0, none⟩, 256, mark b S (T - S)⟩ : Ent) = .slice (some ⟨g2, 0, none⟩) 256 256 := by unfold eval; rw [mark_len]
              have hmi : Mine3 w.heap.size ⟨some ⟨g2, 0, none⟩, 256, mark b S (T - S)⟩ w2 := by
                unfold Mine3
                rw [hev, mark_len]
                exact HO2.out
              refine ⟨es.set k ⟨some ⟨g2, 0, none⟩, 256, mark b S (T - S)⟩, ?_, by rw [List.length_set]; exact HEL.out, ?_, fun i hi hik => ?_, ?_, fun i hi => ?_⟩
              · rw [← hev]
                exact HON.out.store hmi k HEL.out.symm
              · refine HAL.out.store fun i hi hne => ?_
                have hq := HO.out.2 _ (List.getElem_mem hi)
                have hx : (eval (⟨some ⟨g2, 0, none⟩, 256, mark b S (T - S)⟩ : Ent)).ownBlock = some g2 := rfl
                rw [hx]
                have hn2 : (eval es[i]).ownBlock ≠ some g2 := fun e => by
                  have := (World.ownsRow.lt hq g2 e).2
                  have := HGE.out
                  omega
                exact ⟨.inr hn2, .inr fun e => hn2 e.symm⟩
              · rw [List.getElem_set]
                rw [List.length_set] at hi
                by_cases e : k = i
                · subst e
                  rw [if_pos rfl, ← HSS.out, ← HTT.out]
                · rw [if_neg e]
                  exact HLS.out i hi (by omega)
              · exact (below_next HB.out HB2.out).setCell (own_block (by have := HON.out.1; rw [HEL.out] at this; exact this)).1 _
              · by_cases e : i = k
                · subst e; exact HG1.out
                · exact HGD.out i (by omega)
            clear hri ho2 hb2 hge hmk
            go_wp2
            go_roundw
            case rel => exact ⟨k + 1, by omega, by go_num, by rw [HTT.out], HNX.out⟩
            case measure => simp [intOf]; omega
          · have HNO : Hid (¬ GoodAll K W b) := fun q => by
              have := (q.1 k hlt).2.2
              rw [← HSS.out, ← HTT.out] at this
              exact hno this
            have HB2 := Lib.hid (below_next HB.out hb2)
            clear hno hb2
            go_wp2
            go_ret2
            exact .inr ⟨HNO.out, rfl, HB2.out⟩
    · have ek : k = K := by omega
      obtain ⟨S, hS⟩ : ∃ S, S = stop W b k := ⟨_, rfl⟩
      rw [← hS] at hsw
      rw [← hS]
      have HSS := Lib.hid hS
      have HKK := Lib.hid ek
      have s1 : ¬ c = S := by omega
      clear hS ek
      go_wp2
      obtain ⟨N, hN⟩ : ∃ N, N = W - S := ⟨_, rfl⟩
      rw [← hN]
      have HNN := Lib.hid hN
      have n1 : N ≤ W - S := by omega
      have n2 : W - S ≤ N := by omega
      clear hN
      have HPC : Hid (Has .u8 wr wr.heap.size (some a) (b.take W)) := (H.out.below HB.out).mono HB.out.size
      obtain ⟨w3, hw3⟩ : ∃ w3, w3 = wr := ⟨_, rfl⟩
      go_loopw [56] (fun i wx => ∃ t : Nat, t ≤ N ∧ i = .int .i64 t ∧ (∀ j, j < t → b.getD (S + j) 0 = 0) ∧ w3 = wx) (fun i _ => N - (intOf i).toNat)
      case atStart => exact ⟨0, by omega, rfl, fun j hj => by omega, hw3⟩
      case round =>
        obtain ⟨t, ht, rfl, hz, rfl⟩ := hrel
        subst hw3
        have HZ := Lib.hid hz
        clear hz
        by_cases ht2 : t < N
        · obtain ⟨a', ea, _, hac⟩ := HPC.out (S + t) (by rw [List.length_take]; have := HLEN.out; omega)
          injection ea with ea
          subst ea
          rw [getD_take _ _ _ (by omega), ← add_add] at hac
          obtain ⟨y, hy⟩ : ∃ y, y = b.getD (S + t) 0 := ⟨_, rfl⟩
          rw [← hy] at hac
          have HY := Lib.hid hy
          clear hy
          by_cases h0 : y = 0
          · subst h0
            have HZN : Hid (∀ j, j < t + 1 → b.getD (S + j) 0 = 0) := fun j hj => by
              by_cases e : j = t
              · subst e; exact HY.out.symm
              · exact HZ.out j (by omega)
            go_wp2
            go_roundw
            case rel => exact ⟨t + 1, by omega, by go_num, HZN.out, trivial⟩
            case measure => simp [intOf]; omega
          · have d : (y != 0) = true := by rw [bne_iff_ne]; exact h0
            have HNO : Hid (¬ GoodAll K W b) := fun q => by
              have := q.2 (S + t) (by rw [HSS.out, HKK.out]; omega) (by omega)
              rw [← HY.out] at this
              exact h0 this
            clear h0
            go_wp2
            go_ret2
            exact .inr ⟨HNO.out, rfl, HB.out⟩
        · have e : t = N := by omega
          subst e
          have HGO : Hid (GoodAll K W b) := by
            refine ⟨fun i hi => HGD.out i (by have := HKK.out; omega), fun j h1 h2 => ?_⟩
            rw [← HKK.out, ← HSS.out] at h1
            have := HZ.out (j - S) (by omega)
            rwa [show S + (j - S) = j by omega] at this
          have HNU : Hid (nums es = readL W b K) := by
            apply List.ext_getElem?
            intro i
            by_cases hi : i < K
            · have hi' : i < es.length := by rw [HEL.out]; exact hi
              have e1 := HLS.out i hi' (by have := HKK.out; omega)
              unfold nums readL
              rw [List.getElem?_map, List.getElem?_map, List.getElem?_range hi, List.getElem?_eq_getElem hi', Option.map_some, Option.map_some, e1]
              unfold readP
              rw [stop_end HGO.out.1 i (by omega), stop_end HGO.out.1 (i + 1) (by omega)]
            · rw [List.getElem?_eq_none (by rw [nums_len, HEL.out]; omega), List.getElem?_eq_none (by rw [readL_len]; omega)]
          go_wp2
          go_ret2
          exact .inl ⟨HGO.out, g, es, rfl, HEL.out, HO.out, HAL.out, HNU.out, HB.out⟩
end Go.Proofs.YtoigpehpgpogfaaDoor

/- Contract: the program's hints out of bytes. -/
namespace Go.Proofs.YtoigpehpgpogfaaDoor
open Go.RowKit Slices Go.Proofs.YtoigpehpgpogfaaDoor.Bit

/-- lists and an error that is not wrapped are told -/
def ResW (w : World) (L : List (List Int)) (E : Int) (e : Ending) (w' : World) : Prop :=
  ∃ A c es v, e = .returned (.tuple #[.slice A es.length c, v]) ∧ OwnL w.heap.size (.slice A es.length c) es w' ∧ Alone es ∧ nums es = L ∧ IsF E v w' ∧ Below w.heap.size w w'
theorem resW_nil {w w' : World} {E : Int} {e : Ending} {v : Value} (he : e = .returned (.tuple #[.slice none 0 0, v])) (hv : IsF E v w') (hb : Below w.heap.size w w') : ResW w [] E e w' :=
  ⟨none, 0, [], v, he, ⟨World.ownsRow_nil _ _ _ _, fun e he => by cases he⟩, alone_nil, rfl, hv, hb⟩
theorem OwnL.down {B B' : Nat} {v : Value} {es : List Ent} {w : World} (h : OwnL B v es w) (hB : B' ≤ B) : OwnL B' v es w := ⟨own_down h.1 hB, fun e he => own_down (h.2 e he) hB⟩
theorem piece_drop {b : List Int} {W n : Nat} (h : n = b.length) : piece b W n = b.drop W := by
  unfold piece
  exact List.take_of_length_le (by rw [List.length_drop]; omega)

/-- polysAt's answer, by one form -/
def ResQ (w : World) (K W : Nat) (b : List Int) (e : Ending) (w' : World) : Prop :=
  ∃ A n c ok, e = .returned (.tuple #[.slice A n c, .bool ok]) ∧
    ((ok = true ∧ GoodAll K W b ∧ ∃ g es, A = some ⟨g, 0, none⟩ ∧ n = K ∧ c = K ∧ es.length = K ∧ OwnL w.heap.size (.slice (some ⟨g, 0, none⟩) K K) es w' ∧ Alone es ∧ nums es = readL W b K ∧ Below w.heap.size w w') ∨
     (ok = false ∧ ¬ GoodAll K W b ∧ A = none ∧ n = 0 ∧ c = 0 ∧ Below w.heap.size w w'))
theorem polysAt_one (a a2 : Addr) (c c2 K W : Nat) (b : List Int) (w : World) (hlen : b.length = W + K) (hc : W + 1 ≤ c) (hc2 : K ≤ c2) (h : Has .u8 w w.heap.size (some a) (b.take W)) (h2 : Has .u8 w w.heap.size (some a2) (b.drop W)) (hf : Fit 8 b) (K0 : 1 ≤ K) (K1 : K ≤ 8) (W0 : 55 ≤ W) (W1 : W ≤ 80) :
    Calls Tryd.prog 66 #[.slice (some a) W c, .slice (some a2) K c2] w (ResQ w K W b) :=
  (polysAt_any a a2 c c2 K W b w hlen hc hc2 h h2 hf K0 K1 W0 W1).mono fun e w' q => by
    rcases q with ⟨h1, g, es, he, h3, h4, h5, h6, h7⟩ | ⟨h1, he, h3⟩
    · exact ⟨_, _, _, _, he, .inl ⟨rfl, h1, g, es, rfl, rfl, rfl, h3, h4, h5, h6, h7⟩⟩
    · exact ⟨_, _, _, _, he, .inr ⟨rfl, h1, rfl, rfl, rfl, h3⟩⟩

set_option maxRecDepth 100000 in
set_option maxHeartbeats 4000000 in
theorem readHints_in (s : Int) (A : Option Addr) (c : Nat) (b : List Int) (w : World) (hs : setB s = true) (h : Has .u8 w w.heap.size A b) (hf : Fit 8 b) (hlen : b.length = wOf s + kOf s) (hc : b.length ≤ c) (E : Int) (L : List (List Int))
    (hEL : (GoodAll (kOf s) (wOf s) b → E = 0 ∧ L = readL (wOf s) b (kOf s)) ∧ (¬ GoodAll (kOf s) (wOf s) b → E = 4 ∧ L = [])) :
    Calls Tryd.prog 52 #[.int .i64 s, .slice A b.length c] w (ResW w L E) := by
  obtain ⟨x1, x2, x3, x4, x6, x7, x8, hx⟩ := set_kw hs
  obtain ⟨K0, K1, W0, W1⟩ := kw_bd s
  generalize kOf s = K at hx K0 K1 hlen hEL
  generalize wOf s = W at hx W0 W1 hlen hEL
  have HX := Lib.hid hx
  have HS := Lib.hid hs
  have HEL := Lib.hid hEL
  have HLEN := Lib.hid hlen
  have HF := Lib.hid hf
  obtain ⟨a, rfl, _, _⟩ := h 0 (by omega)
  have H := Lib.hid h
  obtain ⟨n, hn⟩ : ∃ n, n = b.length := ⟨_, rfl⟩
  have n1 : n ≤ W + K := by omega
  have n2 : W + K ≤ n := by omega
  rw [← hn] at hc ⊢
  have HNN := Lib.hid hn
  clear hx h hs hf hlen hEL hn
  go_enter Tryd.func52, Tryd.ntmps52
  go_wp2_with (go_at_call 63; refine (haveSet_yes s _ HS.out).mono ?_; rw [HX.out]; rintro e w1 ⟨rfl, hb⟩; have HB := Lib.hid hb; clear hb)
  have hb2 : Below w.heap.size w (w1.alloc (.cells #[.int .i64 K, .int .i64 x1, .int .i64 x2, .int .i64 x3, .int .i64 x4, .int .i64 W, .int .i64 x6, .int .i64 x7, .int .i64 x8] 30)) := HB.out.alloc HB.out.size _
  have hn2 := Nine.new w1 30 #[.int .i64 K, .int .i64 x1, .int .i64 x2, .int .i64 x3, .int .i64 x4, .int .i64 W, .int .i64 x6, .int .i64 x7, .int .i64 x8]
  generalize w1.heap.size = gs at hn2
  generalize World.alloc _ _ = w2 at hb2 hn2 ⊢
  have H2 := Lib.hid (has_next H.out hb2)
  have HB2 := Lib.hid hb2
  have HN2 := Lib.hid hn2
  have c0 : w2.cell? ⟨gs, 0, none⟩ = some (.int .i64 K) := hn2.cell 0
  have c5 : w2.cell? ⟨gs, 5, none⟩ = some (.int .i64 W) := hn2.cell 5
  clear HB hb2 hn2
  have teq : ((n : Int) == (W : Int) + (K : Int)) = true := by rw [beq_iff_eq]; omega
  have HT := Lib.hid teq
  clear teq
  go_wp2_with fail
  refine (fsize_any _ (some a) n c ((W : Int) + (K : Int)) w2 (by omega)).mono ?_
  rw [HT.out, if_pos rfl]
  rintro e w3 ⟨v, rfl, hv, hb3⟩
  have ev := isF_zero hv
  subst ev
  have H3 := Lib.hid (has_next H2.out hb3)
  have HB3 := Lib.hid (below_next HB2.out hb3)
  have HN3 := Lib.hid (HN2.out.next hb3)
  clear hb3 hv H2 HB2 HN2 c0 c5 HT
  go_wp2
  have q1 : (W : Int) ≤ (c : Int) := by omega
  have q2 : (0 : Int) ≤ (W : Int) := by omega
  have q3 : (W : Int) ≤ (n : Int) := by omega
  have q4 : (n : Int) ≤ (c : Int) := by omega
  have q5 : (W : Int) ≤ max (n : Int) 0 := by omega
  have q6 : ¬ c = W := by omega
  have q7 : W ≤ c := by omega
  have q8 : W ≤ n := by omega
  have H4 : Hid (Has .u8 w3.drew w3.drew.heap.size (some a) b) := H3.out
  have HB4 : Hid (Below w.heap.size w w3.drew) := HB3.out.drew
  have c5 : w3.cell? ⟨gs, 5, none⟩ = some (.int .i64 W) := HN3.out.cell 5
  clear H3 HB3 HN3
  have HP1 : Hid (Has .u8 w3.drew w3.drew.heap.size (some a) (b.take W)) := H4.out.take W
  have HP2 : Hid (Has .u8 w3.drew w3.drew.heap.size (some (a.add W)) (b.drop W)) := by
    have := has_part H4.out W n (by have := HNN.out; omega) q8
    rwa [piece_drop HNN.out] at this
  have hKn : n - W = K := by omega
  have HKN := Lib.hid hKn
  clear hKn
  have HCALL : Hid (∀ m, m = K → Calls Tryd.prog 66 #[.slice (some a) W c, .slice (some (a.add W)) m (c - W)] w3.drew (ResQ w3.drew K W b)) := fun m hm => by
    subst hm
    exact polysAt_one a (a.add W) c (c - W) m W b w3.drew HLEN.out (by omega) (by omega) HP1.out HP2.out HF.out K0 K1 W0 W1
  go_region_with (go_at_call 66; refine (HCALL.out _ HKN.out).mono ?_; rintro e w5 ⟨A5, n5, c5, ok, rfl, hq⟩; have HQ := Lib.hid hq; clear hq)
  all_goals
    rcases HQ.out with ⟨rfl, hgd, g, es, rfl, rfl, rfl, hel, hol, hal, hnu, hb5⟩ | ⟨rfl, hno, rfl, rfl, rfl, hb5⟩
    · have HGD := Lib.hid hgd
      have HOL := Lib.hid (hol.down HB4.out.size)
      have HBB := Lib.hid (below_next HB4.out hb5)
      have HAL := Lib.hid hal
      have HNU := Lib.hid hnu
      have HE2 := Lib.hid hel
      clear hgd hol hal hnu hb5 hel HQ
      go_wp2
      go_ret2
      obtain ⟨rfl, rfl⟩ := HEL.out.1 HGD.out
      exact ⟨some ⟨g, 0, none⟩, _, es, .nilIface, by rw [HE2.out]; rfl, by rw [HE2.out]; exact HOL.out, HAL.out, HNU.out, isF_nil _, HBB.out⟩
    · have HNO := Lib.hid hno
      have HBB := Lib.hid (below_next HB4.out hb5)
      clear hno hb5 HQ
      go_wp2
      go_ret2
      obtain ⟨rfl, rfl⟩ := HEL.out.2 HNO.out
      exact resW_nil rfl (isF_new (by decide)) (HBB.out.alloc HBB.out.size _)

set_option maxRecDepth 100000 in
set_option maxHeartbeats 2000000 in
theorem readHints_no (s : Int) (A : Option Addr) (c n : Nat) (w : World) (hs : ¬ setB s = true) :
    Calls Tryd.prog 52 #[.int .i64 s, .slice A n c] w (ResW w [] 2) := by
  have hs' : setB s = false := by simpa using hs
  have HX := Lib.hid (set_none hs')
  have HS := Lib.hid hs'
  clear hs hs'
  go_enter Tryd.func52, Tryd.ntmps52
  go_wp2_with (go_at_call 63; refine (haveSet_no s _ HS.out).mono ?_; rw [HX.out]; rintro e w1 ⟨v, rfl, hv, hb⟩; obtain ⟨p, rfl⟩ := isF_some hv (by decide); have HB := Lib.hid hb; have HV := Lib.hid hv; clear hb hv)
  go_ret2
  exact resW_nil rfl (HV.out.next ((Below.refl _ _).alloc (Nat.le_refl _) _)) (HB.out.alloc HB.out.size _)

set_option maxRecDepth 100000 in
set_option maxHeartbeats 2000000 in
theorem readHints_size (s : Int) (A : Option Addr) (c n : Nat) (w : World) (hs : setB s = true) (hn : n ≤ 4000) (h : n ≠ wOf s + kOf s) :
    Calls Tryd.prog 52 #[.int .i64 s, .slice A n c] w (ResW w [] 3) := by
  obtain ⟨x1, x2, x3, x4, x6, x7, x8, hx⟩ := set_kw hs
  obtain ⟨K0, K1, W0, W1⟩ := kw_bd s
  generalize kOf s = K at hx K0 K1 h
  generalize wOf s = W at hx W0 W1 h
  have HX := Lib.hid hx
  have HS := Lib.hid hs
  clear hx hs
  go_enter Tryd.func52, Tryd.ntmps52
  go_wp2_with (go_at_call 63; refine (haveSet_yes s _ HS.out).mono ?_; rw [HX.out]; rintro e w1 ⟨rfl, hb⟩; have HB := Lib.hid hb; clear hb)
  have hb2 : Below w.heap.size w (w1.alloc (.cells #[.int .i64 K, .int .i64 x1, .int .i64 x2, .int .i64 x3, .int .i64 x4, .int .i64 W, .int .i64 x6, .int .i64 x7, .int .i64 x8] 30)) := HB.out.alloc HB.out.size _
  have hn2 := Nine.new w1 30 #[.int .i64 K, .int .i64 x1, .int .i64 x2, .int .i64 x3, .int .i64 x4, .int .i64 W, .int .i64 x6, .int .i64 x7, .int .i64 x8]
  generalize w1.heap.size = gs at hn2
  generalize World.alloc _ _ = w2 at hb2 hn2 ⊢
  have HB2 := Lib.hid hb2
  have c0 : w2.cell? ⟨gs, 0, none⟩ = some (.int .i64 K) := hn2.cell 0
  have c5 : w2.cell? ⟨gs, 5, none⟩ = some (.int .i64 W) := hn2.cell 5
  clear HB hb2 hn2
  have teq : ((n : Int) == (W : Int) + (K : Int)) = false := by rw [beq_eq_false_iff_ne]; omega
  have HT := Lib.hid teq
  clear teq h
  go_wp2_with fail
  refine (fsize_any _ A n c ((W : Int) + (K : Int)) w2 (by omega)).mono ?_
  rw [HT.out, if_neg (by decide)]
  rintro e w3 ⟨v, rfl, hv, hb3⟩
  obtain ⟨p, rfl⟩ := isF_some hv (by decide)
  have HV := Lib.hid hv
  have HB3 := Lib.hid (below_next HB2.out hb3)
  clear hv hb3 HB2
  go_wp2
  go_ret2
  exact resW_nil rfl HV.out HB3.out

theorem readHints_any (s : Int) (A : Option Addr) (c : Nat) (b : List Int) (w : World) (h : Has .u8 w w.heap.size A b) (hf : Fit 8 b) (hn : b.length ≤ 4000) (hc : b.length ≤ c) :
    Calls Tryd.prog 52 #[.int .i64 s, .slice A b.length c] w (ResW w (rL s b) (rE s b)) := by
  by_cases hs : setB s = true
  · by_cases hl : b.length = wOf s + kOf s
    · refine readHints_in s A c b w hs h hf hl hc _ _ ⟨fun g => ?_, fun g => ?_⟩
      · have u := (good_iff hf hl).1 g
        exact ⟨by unfold rE; rw [if_pos hs, if_pos hl, if_pos u], by unfold rL; rw [if_pos ⟨hs, u⟩]⟩
      · have u : ¬ UnOk s b := fun q => g ((good_iff hf hl).2 q)
        exact ⟨by unfold rE; rw [if_pos hs, if_pos hl, if_neg u], by unfold rL; rw [if_neg fun q => u q.2]⟩
    · have e1 : rE s b = 3 := by unfold rE; rw [if_pos hs, if_neg hl]
      have e2 : rL s b = [] := by unfold rL; rw [if_neg fun q => hl q.2.1]
      rw [e1, e2]
      exact readHints_size s A c b.length w hs hn hl
  · have e1 : rE s b = 2 := by unfold rE; rw [if_neg hs]
    have e2 : rL s b = [] := by unfold rL; rw [if_neg fun q => hs q.1]
    rw [e1, e2]
    exact readHints_no s A c b.length w hs

set_option maxHeartbeats 1000000 in
theorem pUnhint_any (s : Int) (A : Option Addr) (c : Nat) (b : List Int) (w : World) (h : Has .u8 w w.heap.size A b) (hf : Fit 8 b) (hn : b.length ≤ 4000) (hc : b.length ≤ c) :
    Calls Tryd.prog 29 #[.int .i64 s, .slice A b.length c] w (ResV w (rL s b) (rE s b)) := by
  have H := Lib.hid h
  have HF := Lib.hid hf
  clear h hf
  go_enter Tryd.func29, Tryd.ntmps29
  go_wp2_with (first
    | (go_at_call 52; refine (readHints_any s A c b _ H.out HF.out hn hc).mono ?_; rintro e w1 ⟨A1, c1, es, v, rfl, ho, ha, hu, hv, hb⟩; have HO := Lib.hid ho; have HA := Lib.hid ha; have HU := Lib.hid hu; have HV := Lib.hid hv; have HB := Lib.hid hb; clear ho ha hu hv hb)
    | (go_at_call 51; refine (wrap_any _ _ v _ HV.out).mono ?_; rintro e w2 ⟨v2, rfl, hv2, hb2⟩; have HV2 := Lib.hid hv2; have HB2 := Lib.hid hb2; clear hv2 hb2))
  go_ret2
  exact ⟨A1, c1, es, v2, rfl, HO.out.next HB2.out, HA.out, HU.out, HV2.out, below_next HB.out HB2.out⟩
end Go.Proofs.YtoigpehpgpogfaaDoor

/- What is asked of the program's functions is so. -/
namespace Go.Proofs.YtoigpehpgpogfaaDoor
open Go.RowKit Slices Go.Proofs.YtoigpehpgpogfaaDoor.Bit

theorem layOk2 : LayOk2 where
  toLayOk := layOk
  hints := fun s A c es w h hn _ => pHints_any s A c es w h hn
  unhint := pUnhint_any
  high := fun s A c es w h hn _ => pHigh_any s A c es w h hn
end Go.Proofs.YtoigpehpgpogfaaDoor

/- What the laws on hints and high parts ask beside. -/
namespace Go.Proofs.YtoigpehpgpogfaaDoor
open Go.RowKit Slices Go.Proofs.YtoigpehpgpogfaaDoor.Bit

theorem xor_byte {a b : Nat} (ha : a < 256) (hb : b < 256) : bits .xor .u8 (a : Int) (b : Int) = ((a ^^^ b : Nat) : Int) := u8_xor_nat a b ha hb
theorem own_cap {t : TypeId} {w : World} {B n c : Nat} {A : Option Addr} {xs : List Value} (h : w.ownsRow B t 1 (.slice A n c) n xs) : n ≤ c := by
  rcases h.2 with ⟨hv, rfl⟩ | ⟨g, c', cur, hv, _, _, h3, _⟩
  · exact Nat.zero_le _
  · injection hv with _ _ h
    subst h
    exact h3
theorem isErr_zero {v : Value} {w : World} (h : IsErr 0 v w) : v = .nilIface := by
  rcases h with ⟨_, h⟩ | ⟨h, _⟩
  · exact h
  · exact absurd rfl h
theorem isErr_some {c : Int} {v : Value} {w : World} (h : IsErr c v w) (hc : c ≠ 0) : ∃ q : Nat, v = .iface 89 (.pointer (some ⟨q, 0, none⟩)) := by
  rcases h with ⟨e, _⟩ | ⟨_, q, p, h, _⟩
  · exact absurd e hc
  · exact ⟨q, h⟩
/-- bytes that are laid so of what they are read as -/
def UnOk' (K W : Nat) (b : List Int) : Prop := hintsE K W (readL W b K) = 0 ∧ hintsL K W (readL W b K) = b
theorem read_facts {s : Int} (hs : setB s = true) : (∀ h, hE s h = hintsE (kOf s) (wOf s) h ∧ hB s h = hintsB (kOf s) (wOf s) h) ∧
    ∀ b : List Int, b.length = wOf s + kOf s → (UnOk' (kOf s) (wOf s) b → rE s b = 0 ∧ rL s b = readL (wOf s) b (kOf s)) ∧ (¬ UnOk' (kOf s) (wOf s) b → rE s b = 4 ∧ rL s b = []) := by
  refine ⟨fun h => ⟨if_pos hs, if_pos hs⟩, fun b hl => ⟨fun u => ?_, fun u => ?_⟩⟩
  · have u' : UnOk s b := ⟨hl, u.1, u.2⟩
    exact ⟨by unfold rE; rw [if_pos hs, if_pos hl, if_pos u'], by unfold rL; rw [if_pos ⟨hs, u'⟩]⟩
  · have u' : ¬ UnOk s b := fun q => u q.2
    exact ⟨by unfold rE; rw [if_pos hs, if_pos hl, if_neg u'], by unfold rL; rw [if_neg fun q => u' q.2]⟩
theorem set_low {t : Int} (h0 : 0 ≤ t) (h1 : t < 3) : setB (1 + t) = true := by
  have : t = 0 ∨ t = 1 ∨ t = 2 := by omega
  rcases this with rfl | rfl | rfl <;> decide
theorem fit_set {b : List Int} (h : Fit 8 b) (j : Nat) {x : Int} (h0 : 0 ≤ x) (h1 : x < 256) : Fit 8 (b.set j x) := fun i hi => by
  rw [List.length_set] at hi
  rw [List.getD_eq_getElem?_getD, List.getElem?_set]
  split
  · rw [if_pos (by omega)]; exact ⟨h0, h1⟩
  · rw [← List.getD_eq_getElem?_getD]; exact h i hi
theorem nums_nil {es : List Ent} (h : nums es = []) : es.length = 0 := by rw [← nums_len, h]; rfl

end Go.Proofs.YtoigpehpgpogfaaDoor

