/- Contract: the document's own reader: bytes that are there. -/
import Derived.Test.YtidpihpddkfhgaaDoorCf
namespace Go.Proofs.YtidpihpddkfhgaaDoor
open Go.RowKit Slices Go.Proofs.YtidpihpddkfhgaaDoor.Bit

theorem own_rs_ne {g n c m B : Nat} {A : Option Addr} {bad : Bool} {w : World} {v : Value} {xs : List Value} (h : w.ownsRow B 5 1 v m xs) (hr : RS g A n c bad w) : v.ownBlock = none ∨ v.ownBlock ≠ some g := by
  rcases h.2 with ⟨rfl, _⟩ | ⟨g', c', cur, rfl, _, hg, _⟩
  · exact .inl rfl
  · refine .inr fun e => ?_
    have e' : g' = g := by injection e
    subst e'
    unfold RS at hr
    rw [hg] at hr
    simp at hr
theorem has_grown {w w' : World} {g : Nat} {A : Option Addr} {l : List Int} (h : Has .u8 w g A l) (_hg : g < w'.heap.size) (hk : w.grownBy w' none) : Has .u8 w' g A l := fun k hl => by
  obtain ⟨a, e, hb, hc⟩ := h k hl
  refine ⟨a, e, hb, ?_⟩
  have hlt : (a.add k).block < w.heap.size := by
    rcases Nat.lt_or_ge (a.add k).block w.heap.size with q | q
    · exact q
    · simp [World.cell?, Array.getElem?_eq_none q] at hc
  have e2 := hk.block (a.add k).block hlt (by simp)
  unfold World.cell? at hc ⊢
  rw [e2]
  exact hc
theorem has_dropN {w : World} {B : Nat} {a : Addr} {l : List Int} (h : Has .u8 w B (some a) l) (n : Nat) : Has .u8 w B (some (a.add n)) (l.drop n) := fun k hk => by
  rw [List.length_drop] at hk
  obtain ⟨a', e, hb, hc⟩ := h (n + k) (by omega)
  injection e with e
  subst e
  refine ⟨_, rfl, by rw [add_block]; exact hb, ?_⟩
  rw [add_add14, List.getD_eq_getElem?_getD, List.getElem?_drop, ← List.getD_eq_getElem?_getD]
  exact hc
theorem rs_grown {g n c : Nat} {A : Option Addr} {bad : Bool} {w w' : World} (h : RS g A n c bad w) (hg : w.grownBy w' none) : RS g A n c bad w' := (hg.block g h.lt (by simp)).trans h
set_option maxRecDepth 100000 in
set_option maxHeartbeats 2000000 in
theorem refRBytes_yes (z0 g : Nat) (l : List Int) (most : Int) (w : World) (h : Rd z0 g l false w) (hf : Fit 8 l) (hl : l.length ≤ 40000) (hk : rdBOk l false most) :
    Calls Tryd.prog 62 #[.pointer (some ⟨g, 0, none⟩), .int .i64 most] w fun e w' => ∃ A' c', e = .returned (.slice A' (rdX l).toNat c') ∧ w'.ownsRow w.heap.size 5 1 (.slice A' (rdX l).toNat c') (rdX l).toNat (ints .u8 ((l.drop 8).take (rdX l).toNat)) ∧ Rd z0 g (l.drop (8 + (rdX l).toNat)) false w' ∧ w.grownBy w' (some g) := by
  obtain ⟨i0, hi0, hz0, hz1, hz2⟩ := info_parts Tryd.info5
  obtain ⟨h0, hr, hle⟩ := hk
  obtain ⟨n, hn⟩ : ∃ n : Nat, rdX l = n := ⟨(rdX l).toNat, by have := hr.2.2.1; omega⟩
  have e0 : (rdX l).toNat = n := by rw [hn]; rfl
  rw [e0] at hle ⊢
  have h8 : 8 ≤ l.length := hr.2.1
  have H := Lib.hid h
  have HF := Lib.hid hf
  have HR := Lib.hid hr
  have HN := Lib.hid hn
  clear h hf hr hn e0
  go_enter Tryd.func62, Tryd.ntmps62
  go_wp2_with fail
  refine (refRNum_yesS z0 g l 0 most _ H.out HF.out HR.out).mono ?_
  rw [HN.out]
  rintro e w1 ⟨rfl, ⟨a1, k1, r1, r2, r3⟩, hg⟩
  rw [List.length_drop] at r1 r3
  obtain ⟨M, hM⟩ : ∃ M, M = l.length - 8 := ⟨_, rfl⟩
  rw [← hM] at r1 r3
  have m1 : n ≤ M := by omega
  have m2 : M ≤ k1 := r3.1
  have c0 := r1.c0
  have c1 := r1.c1
  have f0 := r1.f 0
  have R1 := Lib.hid r1
  have R2 := Lib.hid r2
  have R3 := Lib.hid r3
  have HG := Lib.hid hg
  have HM := Lib.hid hM
  have HT : Hid (((l.drop 8).take n).length = n) := by show List.length _ = _; rw [List.length_take, List.length_drop]; omega
  clear r1 r2 r3 hg hM
  have hd : l.drop (8 + n) = (l.drop 8).drop n := by rw [List.drop_drop]
  have HD := Lib.hid hd
  clear hd
  by_cases hkn : n = k1
  · subst hkn
    go_wp2_with (at_builtin; refine append_any w1 rfl _ _ 22 rfl w.heap.size 5 i0 (.int .u8 0) 1 1 Tryd.underlying22 hi0 hz0 hz1 hz2 rfl (by decide) _ 0 [] rfl (World.ownsRow_nil _ _ _ _) (some a1) n n (ints .u8 ((l.drop 8).take n)) rfl (by rw [ints_length, HT.out, Nat.mul_one]) (fun h => by cases h) (R2.out.take n).cells (ints_one _ _) (by unfold maxLen; omega) (by omega) HG.out.size ?_; intro v2 w2 hown hgr0; have hgr : w1.grownBy w2 none := hgr0; clear hgr0; have r2' := rs_grown R1.out hgr; have c20 := r2'.c0; have f20 := r2'.f 0; have RR := Lib.hid r2'; have O2 := Lib.hid hown; have G2 := Lib.hid hgr; clear hown hgr r2')
    have o2 : w2.ownsRow w.heap.size 5 1 v2 n (ints .u8 ((l.drop 8).take n)) := by simpa using O2.out
    obtain ⟨A2, k2, rfl⟩ := own_slice o2
    have OO := Lib.hid o2
    have HH2 : Hid (Has .u8 w2 g (some a1) (l.drop 8)) := has_grown R2.out RR.out.lt G2.out
    have HGG : Hid (w.grownBy w2 (some g)) := grown_by_trans HG.out ⟨G2.out.os, G2.out.tape, G2.out.output, G2.out.size, fun i hi _ => G2.out.block i hi (by simp)⟩
    clear o2
    go_ret
    refine ⟨A2, k2, rfl, OO.out.kept (grown_cell _ _ _ _) (own_rs_ne OO.out RR.out), ⟨some a1, 0, ?_, ?_, ?_, (fun e => by cases e), fun b e => by injection e with e; rw [← e]; exact R3.out.2⟩, grown_two HGG.out (grown_cell _ _ _ _)⟩
    · have e : (l.drop (8 + n)).length = 0 := by rw [List.length_drop]; have := HM.out; omega
      rw [e]
      first | exact RR.out.rest | (rw [show M - n = 0 by omega]; exact RR.out.rest)
    · intro k hk
      rw [List.length_drop] at hk
      have := HM.out
      omega
    · rw [List.length_drop]; have := HM.out; omega
  · go_wp2_with (at_builtin; refine append_any w1 rfl _ _ 22 rfl w.heap.size 5 i0 (.int .u8 0) 1 1 Tryd.underlying22 hi0 hz0 hz1 hz2 rfl (by decide) _ 0 [] rfl (World.ownsRow_nil _ _ _ _) (some a1) n k1 (ints .u8 ((l.drop 8).take n)) rfl (by rw [ints_length, HT.out, Nat.mul_one]) (fun h => by cases h) (R2.out.take n).cells (ints_one _ _) (by unfold maxLen; omega) (by omega) HG.out.size ?_; intro v2 w2 hown hgr0; have hgr : w1.grownBy w2 none := hgr0; clear hgr0; have r2' := rs_grown R1.out hgr; have c20 := r2'.c0; have f20 := r2'.f 0; have RR := Lib.hid r2'; have O2 := Lib.hid hown; have G2 := Lib.hid hgr; clear hown hgr r2')
    have o2 : w2.ownsRow w.heap.size 5 1 v2 n (ints .u8 ((l.drop 8).take n)) := by simpa using O2.out
    obtain ⟨A2, k2, rfl⟩ := own_slice o2
    have OO := Lib.hid o2
    have HH2 : Hid (Has .u8 w2 g (some a1) (l.drop 8)) := has_grown R2.out RR.out.lt G2.out
    have HGG : Hid (w.grownBy w2 (some g)) := grown_by_trans HG.out ⟨G2.out.os, G2.out.tape, G2.out.output, G2.out.size, fun i hi _ => G2.out.block i hi (by simp)⟩
    clear o2
    go_ret
    refine ⟨A2, k2, rfl, OO.out.kept (grown_cell _ _ _ _) (own_rs_ne OO.out RR.out), ⟨some (a1.add n), k1 - n, ?_, ?_, ?_, (fun e => by cases e), fun b e => by injection e with e; rw [← e, add_block]; exact R3.out.2⟩, grown_two HGG.out (grown_cell _ _ _ _)⟩
    · have e : (l.drop (8 + n)).length = M - n := by rw [List.length_drop]; have := HM.out; omega
      rw [e]
      exact RR.out.rest
    · rw [HD.out]
      exact has_put (has_dropN HH2.out n)
    · rw [List.length_drop]; have := HM.out; omega
end Go.Proofs.YtidpihpddkfhgaaDoor
