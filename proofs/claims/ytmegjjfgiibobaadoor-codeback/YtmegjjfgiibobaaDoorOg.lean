/- Contracts: the landed reader: a part, a copy, what is asked. -/
import Derived.Test.YtmegjjfgiibobaaDoorOf
import Derived.Test.YtmegjjfgiibobaaDoorCk
import Derived.Test.YtmegjjfgiibobaaDoorOb
import Derived.Laws.BytesArg
namespace Go.Proofs.YtmegjjfgiibobaaDoor
open Go.RowKit Slices Go.Proofs.YtmegjjfgiibobaaDoor.Bit

set_option maxHeartbeats 1000000 in
theorem part_yes (z0 g : Nat) (l : List Int) (most : Int) (w : World) (h : Rp z0 g l false w) (hf : Fit 8 l) (hk : rdBOk l false most) :
    Calls Tryd.prog 36 #[.pointer (some ⟨g, 0, none⟩), .int .i64 most] w fun e w' => ∃ A c, e = .returned (.slice A (rdX l).toNat c) ∧ Has .u8 w' g A ((l.drop 8).take (rdX l).toNat) ∧ (A = none → (rdX l).toNat = 0 ∧ c = 0) ∧ Rp z0 g (l.drop (8 + (rdX l).toNat)) false w' ∧ w.grownBy w' (some g) := by
  obtain ⟨h0, hr, hle⟩ := hk
  obtain ⟨n, hn⟩ : ∃ n : Nat, rdX l = n := ⟨(rdX l).toNat, by have := hr.2.2.1; omega⟩
  have e0 : (rdX l).toNat = n := by rw [hn]; rfl
  rw [e0] at hle ⊢
  have h8 : 8 ≤ l.length := hr.2.1
  have H := Lib.hid h
  have HF := Lib.hid hf
  have HR := Lib.hid hr
  have HN := Lib.hid hn
  have HD : Hid ((l.drop 8).drop n = l.drop (8 + n)) := by show _ = _; rw [List.drop_drop]
  clear h hf hr hn e0
  go_enter Tryd.func36, Tryd.ntmps36
  go_wp2_with fail
  refine (rnumber_yes z0 g l 0 most _ H.out HF.out HR.out).mono ?_
  rw [HN.out]
  rintro e w1 ⟨rfl, hr, hg⟩
  have HR1 := Lib.hid hr
  have HG1 := Lib.hid hg
  clear hr hg
  go_wp2_with fail
  refine (take_rp z0 g n (l.drop 8) _ HR1.out (by rw [List.length_drop]; omega)).mono ?_
  rintro e w2 ⟨A, c, rfl, hh, hA, hr, hg⟩
  have HH := Lib.hid hh
  have HA := Lib.hid hA
  have HR2 := Lib.hid hr
  have HG2 := Lib.hid hg
  clear hh hA hr hg
  go_wp2
  go_ret
  exact ⟨A, c, rfl, HH.out, HA.out, by rw [← HD.out]; exact HR2.out, grown_two HG1.out HG2.out⟩
theorem take_zero (z0 g : Nat) (w : World) (h : Rp z0 g [] true w) :
    Calls Tryd.prog 43 #[.pointer (some ⟨g, 0, none⟩), .int .i64 0] w (Ref z0 g (.slice none 0 0) w) := by
  have h1 := (h.1 rfl).2
  refine (take_yes g 0 0 0 none true w h1 (Nat.le_refl _) (Nat.le_refl _) (fun _ => rfl)).mono ?_
  rintro e w' ⟨he, rfl⟩
  exact ⟨he, rp_refused z0 (h1.rest (A' := none) (n' := 0) (c' := 0)), grown_cell _ _ _ _⟩
set_option maxHeartbeats 1000000 in
theorem part_no (z0 g : Nat) (l : List Int) (bad : Bool) (most : Int) (w : World) (h : Rp z0 g l bad w) (hf : Fit 8 l) (hk : ¬ rdBOk l bad most) :
    Calls Tryd.prog 36 #[.pointer (some ⟨g, 0, none⟩), .int .i64 most] w (Ref z0 g (.slice none 0 0) w) := by
  have H := Lib.hid h
  have HF := Lib.hid hf
  clear h hf
  by_cases hr : rdOk l bad 0 most
  · have hb : bad = false := hr.1
    subst hb
    have h0 : 0 ≤ most := by have := hr.2.2; omega
    have hbig : l.length - 8 < (rdX l).toNat := by
      rcases Nat.lt_or_ge (l.length - 8) (rdX l).toNat with q | q
      · exact q
      · exact absurd ⟨h0, hr, q⟩ hk
    have x0 : 0 ≤ rdX l := hr.2.2.1
    have HR := Lib.hid hr
    obtain ⟨n, hn⟩ : ∃ n : Nat, rdX l = n := ⟨(rdX l).toNat, by omega⟩
    have hbig2 : l.length - 8 < n := by omega
    have HN := Lib.hid hn
    clear hr hbig x0 hn hk
    go_enter Tryd.func36, Tryd.ntmps36
    go_wp2_with fail
    refine (rnumber_yes z0 g l 0 most _ H.out HF.out HR.out).mono ?_
    rw [HN.out]
    rintro e w1 ⟨rfl, hr, hg⟩
    have HR1 := Lib.hid hr
    have HG1 := Lib.hid hg
    clear hr hg
    go_wp2_with fail
    refine (take_rp_no z0 g n (l.drop 8) false _ HR1.out (by rw [List.length_drop]; omega)).mono ?_
    rintro e w2 ⟨rfl, hr, hg⟩
    have HR2 := Lib.hid hr
    have HG2 := Lib.hid hg
    clear hr hg
    go_wp2
    go_ret
    exact ⟨rfl, HR2.out, grown_two HG1.out HG2.out⟩
  · have HR := Lib.hid hr
    clear hr hk
    go_enter Tryd.func36, Tryd.ntmps36
    go_wp2_with fail
    refine (rnumber_no z0 g l bad 0 most _ H.out HF.out HR.out).mono ?_
    rintro e w1 ⟨rfl, hr, hg⟩
    have HR1 := Lib.hid hr
    have HG1 := Lib.hid hg
    clear hr hg
    go_wp2_with fail
    refine (take_zero z0 g _ HR1.out).mono ?_
    rintro e w2 ⟨rfl, hr, hg⟩
    have HR2 := Lib.hid hr
    have HG2 := Lib.hid hg
    clear hr hg
    go_wp2
    go_ret
    exact ⟨rfl, HR2.out, grown_two HG1.out HG2.out⟩

set_option maxRecDepth 100000 in
theorem clone_nil (w : World) : Calls Tryd.prog 34 #[.slice none 0 0] w fun e w' => e = .returned (.slice none 0 0) ∧ w = w' := by
  have q := Lib.run_eql_slice_nil (P := Tryd.prog) w 22 5 none 0 0 0 0 Tryd.underlying22
  go_enter Tryd.func34, Tryd.ntmps34
  go_wp2
  go_ret
  exact ⟨rfl, rfl⟩
set_option maxRecDepth 100000 in
set_option maxHeartbeats 1000000 in
theorem clone_some (B : Nat) (a : Addr) (n c : Nat) (l : List Int) (w : World) (h : Has .u8 w B (some a) l) (hn : l.length = n) (hl : n ≤ 100000) :
    Calls Tryd.prog 34 #[.slice (some a) n c] w (Row w.heap.size w n l) := by
  obtain ⟨i0, hi0, hz0, hz1, hz2⟩ := info_parts Tryd.info5
  have H := Lib.hid h.cells
  have HN := Lib.hid hn
  have q := Lib.run_eql_slice_nil (P := Tryd.prog) w 22 5 (some a) n c 0 0 Tryd.underlying22
  clear h hn
  go_enter Tryd.func34, Tryd.ntmps34
  go_wp2_with (at_builtin; refine append_any _ rfl _ _ 22 rfl w.heap.size 5 i0 (.int .u8 0) 1 1 Tryd.underlying22 hi0 hz0 hz1 hz2 rfl (by decide) _ _ _ rfl (World.ownsRow_made w #[] 0 (Nat.le_refl _) (Nat.zero_le _) rfl) (some a) n c (ints .u8 l) rfl (by rw [ints_length, HN.out, Nat.mul_one]) (fun h => by cases h) (fun ad e j u hu => Lib.cell?_alloc_some _ (H.out ad e j u hu)) (ints_one _ _) (by unfold maxLen; omega) (by omega) (by simp) ?_; intro v2 w2 hown hgrow; have HO := Lib.hid hown; have HG := Lib.hid hgrow; clear hown hgrow)
  go_ret
  have hm : (w.alloc (.cells #[] 5)).ownsRow w.heap.size 5 1 (.slice (some ⟨w.heap.size, 0, none⟩) 0 0) 0 [] := World.ownsRow_made w #[] 0 (Nat.le_refl _) (Nat.zero_le _) rfl
  refine row_of ?_ (below_own ((Below.refl _ w).alloc (Nat.le_refl _) _) HG.out hm (by simp))
  have := HO.out
  simpa using this
/-- a copy of what may be none -/
theorem clone_any (B n c : Nat) (A : Option Addr) (l : List Int) (w : World) (h : Has .u8 w B A l) (hn : l.length = n) (hA : A = none → n = 0 ∧ c = 0) (hl : n ≤ 100000) :
    Calls Tryd.prog 34 #[.slice A n c] w (Row w.heap.size w n l) := by
  rcases A with _ | a
  · obtain ⟨rfl, rfl⟩ := hA rfl
    obtain rfl := List.eq_nil_of_length_eq_zero hn
    refine (clone_nil w).mono ?_
    rintro e w' ⟨he, rfl⟩
    exact ⟨none, 0, he, World.ownsRow_nil _ _ _ _, Below.refl _ _⟩
  · exact clone_some B a n c l w h hn hl

/-- a reader at block g, all of whose memory lies from block B on, below block U -/
def prL (B U g : Nat) (l : List Int) (bad : Bool) (w : World) : Prop := B ≤ g ∧ g < U ∧ U ≤ w.heap.size ∧ Rp B g l bad w
theorem prL_lt (B U g : Nat) (l : List Int) (bad : Bool) (w : World) (h : prL B U g l bad w) : B ≤ g ∧ g < U ∧ U ≤ w.heap.size := ⟨h.1, h.2.1, h.2.2.1⟩
theorem prL_keep (B U g : Nat) (l : List Int) (bad : Bool) (w w' : World) (h : prL B U g l bad w) (hs : w.heap.size ≤ w'.heap.size) (hk : ∀ i, B ≤ i → i < U → w'.heap[i]? = w.heap[i]?) : prL B U g l bad w' := by
  obtain ⟨h1, h2, h3, h4, A, c, h5, h6, h7, h8, h9⟩ := h
  have e := hk g h1 h2
  refine ⟨h1, h2, by omega, fun hb => ⟨(h4 hb).1, ?_⟩, A, c, ?_, fun k hl => ?_, h7, h8, h9⟩
  · unfold PS; rw [e]; exact (h4 hb).2
  · unfold PS; rw [e]; exact h5
  · obtain ⟨a, ea, hb, hc⟩ := h6 k hl
    refine ⟨a, ea, hb, ?_⟩
    have e2 := hk a.block (h9 a ea) (by omega)
    rw [← hc]
    unfold World.cell?
    rw [add_block, e2]
theorem prL_rp {B U g : Nat} {l l' : List Int} {bad bad' : Bool} {w w' : World} (h : prL B U g l bad w) (hr : Rp B g l' bad' w') (hg : w.grownBy w' (some g)) : prL B U g l' bad' w' :=
  ⟨h.1, h.2.1, Nat.le_trans h.2.2.1 hg.size, hr⟩

set_option maxHeartbeats 1000000 in
theorem new_any (B n c : Nat) (A : Option Addr) (b : List Int) (w : World) (h : Has .u8 w B A b) (hn : b.length = n) (hA : A = none → n = 0 ∧ c = 0) (hl : n ≤ 100000) :
    Calls Tryd.prog 19 #[.slice A n c] w fun e w' => ∃ g U, e = .returned (.pointer (some ⟨g, 0, none⟩)) ∧ prL w.heap.size U g b false w' ∧ Below w.heap.size w w' := by
  have H := Lib.hid h
  have HN := Lib.hid hn
  have HA := Lib.hid hA
  clear h hn hA
  go_enter Tryd.func19, Tryd.ntmps19
  go_wp2_with fail
  refine (clone_any B n c A b _ H.out HN.out HA.out hl).mono ?_
  rintro e w1 ⟨A1, c1, rfl, ho, hb⟩
  have HO := Lib.hid ho
  have HB := Lib.hid hb
  clear ho hb
  go_wp2
  go_ret
  have hs := HB.out.size
  refine ⟨w1.heap.size, w1.heap.size + 1, rfl, ⟨hs, Nat.lt_succ_self _, by simp, fun h => (by cases h), A1, c1, ?_, ?_, ?_, ?_, ?_⟩, HB.out.alloc hs _⟩
  · rw [HN.out]
    exact heap_alloc_new w1 _
  · exact (own_readn HN.out.symm HO.out).below ((Below.refl _ w1).alloc (Nat.le_refl _) _)
  · rw [HN.out]; exact own_cap HO.out
  · exact fun e => (own_none HO.out e).2
  · rintro a rfl
    exact (HO.out.lt a.block rfl).1
end Go.Proofs.YtmegjjfgiibobaaDoor
