/- Contracts: the program's look at lists of numbers. -/
import Derived.Test.YtoigpehpgpogfaaDoorNe
namespace Go.Proofs.YtoigpehpgpogfaaDoor
open Go.RowKit Slices Go.Proofs.YtoigpehpgpogfaaDoor.Bit

/-- a list of 256 numbers from 0 on, below m -/
def OkList (m : Int) (f : List Int) : Prop := f.length = 256 ∧ ∀ j, j < 256 → 0 ≤ f.getD j 0 ∧ f.getD j 0 < m
open Classical in
noncomputable def okB (m : Int) (f : List Int) : Bool := decide (OkList m f)
open Classical in
theorem okB_yes {m : Int} {f : List Int} (h : OkList m f) : okB m f = true := by unfold okB; exact decide_eq_true h
open Classical in
theorem okB_no {m : Int} {f : List Int} (h : ¬ OkList m f) : okB m f = false := by unfold okB; exact decide_eq_false h
open Classical in
theorem okB_iff {m : Int} {f : List Int} : okB m f = true ↔ OkList m f := by unfold okB; exact decide_eq_true_iff

set_option maxHeartbeats 1000000 in
theorem isList_yes (A : Option Addr) (c B : Nat) (m : Int) (f : List Int) (w : World) (h : Has .i64 w B A f) (hf : OkList m f) :
    Calls Tryd.prog 76 #[.slice A f.length c, .int .i64 m] w fun e w' => e = .returned (.bool true) ∧ w = w' := by
  have t : ((f.length : Int) == 256) = true := by rw [hf.1]; rfl
  have n0 : 0 < f.length := by rw [hf.1]; omega
  have n1 : f.length ≤ 4000 := by rw [hf.1]; omega
  obtain ⟨mn, hmn⟩ : ∃ x, x = minTo f f.length := ⟨_, rfl⟩
  obtain ⟨mx, hmx⟩ : ∃ x, x = maxTo f f.length := ⟨_, rfl⟩
  have g0 : 0 ≤ mn := by
    rw [hmn, hf.1]; exact le_min (hf.2 0 (by omega)).1 256 fun j hj => (hf.2 j hj).1
  have g1 : mx < m := by
    have : mx ≤ m - 1 := by
      rw [hmx, hf.1]; exact max_le (by have := (hf.2 0 (by omega)).2; omega) 256 fun j hj => by have := (hf.2 j hj).2; omega
    omega
  have H := Lib.hid h
  have HN := Lib.hid hmn
  have HX := Lib.hid hmx
  clear h hf hmn hmx
  go_enter Tryd.func76, Tryd.ntmps76
  go_wp2_with (first
    | (go_at_call 81; refine (min_any A c _ B f _ rfl H.out n0 n1).mono ?_; rw [← HN.out]; rintro e w' ⟨rfl, rfl⟩)
    | (go_at_call 40; refine (max_any A c _ B f _ rfl H.out n0 n1).mono ?_; rw [← HX.out]; rintro e w' ⟨rfl, rfl⟩))
  go_ret
  exact ⟨rfl, rfl⟩

set_option maxHeartbeats 1000000 in
theorem isList_no (A : Option Addr) (c B : Nat) (m : Int) (f : List Int) (w : World) (h : Has .i64 w B A f) (hf : ¬ OkList m f) :
    Calls Tryd.prog 76 #[.slice A f.length c, .int .i64 m] w fun e w' => e = .returned (.bool false) ∧ w = w' := by
  by_cases hl : f.length = 256
  · have t : ((f.length : Int) == 256) = true := by rw [hl]; rfl
    have n0 : 0 < f.length := by omega
    have n1 : f.length ≤ 4000 := by omega
    obtain ⟨mn, hmn⟩ : ∃ x, x = minTo f f.length := ⟨_, rfl⟩
    obtain ⟨mx, hmx⟩ : ∃ x, x = maxTo f f.length := ⟨_, rfl⟩
    have hbad : mn < 0 ∨ m ≤ mx := by
      apply Classical.byContradiction
      intro q
      refine hf ⟨hl, fun j hj => ?_⟩
      have h1 := min_le (l := f) 256 j hj
      have h2 := le_max (l := f) 256 j hj
      rw [hl] at hmn hmx
      omega
    have H := Lib.hid h
    have HN := Lib.hid hmn
    have HX := Lib.hid hmx
    clear h hf hmn hmx hl
    by_cases g0 : mn < 0
    · clear hbad
      go_enter Tryd.func76, Tryd.ntmps76
      go_wp2_with (first
        | (go_at_call 81; refine (min_any A c _ B f _ rfl H.out n0 n1).mono ?_; rw [← HN.out]; rintro e w' ⟨rfl, rfl⟩))
      go_ret
      exact ⟨rfl, rfl⟩
    · have g1 : m ≤ mx := by omega
      have g2 : 0 ≤ mn := by omega
      have d : decide (mx < m) = false := by rw [decide_eq_false_iff_not]; omega
      clear hbad g0
      go_enter Tryd.func76, Tryd.ntmps76
      go_wp2_with (first
        | (go_at_call 81; refine (min_any A c _ B f _ rfl H.out n0 n1).mono ?_; rw [← HN.out]; rintro e w' ⟨rfl, rfl⟩)
        | (go_at_call 40; refine (max_any A c _ B f _ rfl H.out n0 n1).mono ?_; rw [← HX.out]; rintro e w' ⟨rfl, rfl⟩))
      go_ret
      exact ⟨rfl, rfl⟩
  · have t : ((f.length : Int) == 256) = false := by rw [beq_eq_false_iff_ne]; omega
    clear h hf hl
    go_enter Tryd.func76, Tryd.ntmps76
    go_wp2
    go_ret
    exact ⟨rfl, rfl⟩
theorem isList_any (A : Option Addr) (c B : Nat) (m : Int) (f : List Int) (w : World) (h : Has .i64 w B A f) :
    Calls Tryd.prog 76 #[.slice A f.length c, .int .i64 m] w fun e w' => e = .returned (.bool (okB m f)) ∧ w = w' := by
  by_cases hf : OkList m f
  · rw [okB_yes hf]; exact isList_yes A c B m f w h hf
  · rw [okB_no hf]; exact isList_no A c B m f w h hf

/-- k lists, each of 256 numbers from 0 on, below m -/
def OkLists (K : Nat) (m : Int) (h : List (List Int)) : Prop := h.length = K ∧ ∀ i, i < K → OkList m (h.getD i [])
/-- the first i are such -/
noncomputable def okTo (b : Bool) (m : Int) (h : List (List Int)) : Nat → Bool
  | 0 => b
  | i + 1 => okTo b m h i && okB m (h.getD i [])
theorem okTo_true (m : Int) (h : List (List Int)) : ∀ i, (okTo true m h i = true ↔ ∀ j, j < i → OkList m (h.getD j [])) := by
  intro i
  induction i with
  | zero => exact ⟨fun _ j hj => by omega, fun _ => rfl⟩
  | succ i ih =>
    show (okTo true m h i && okB m (h.getD i [])) = true ↔ _
    rw [Bool.and_eq_true, ih, okB_iff]
    constructor
    · rintro ⟨a, b⟩ j hj
      by_cases e : j = i
      · subst e; exact b
      · exact a j (by omega)
    · intro a
      exact ⟨fun j hj => a j (by omega), a i (by omega)⟩
theorem okTo_false (m : Int) (h : List (List Int)) : ∀ i, okTo false m h i = false := by
  intro i
  induction i with
  | zero => rfl
  | succ i ih => show (okTo false m h i && _) = false; rw [ih]; rfl
theorem okTo_lists (K : Nat) (m : Int) (h : List (List Int)) : (okTo ((h.length : Int) == (K : Int)) m h h.length = true) ↔ OkLists K m h := by
  by_cases e : h.length = K
  · have t : ((h.length : Int) == (K : Int)) = true := by rw [e]; simp
    rw [t, okTo_true]
    exact ⟨fun q => ⟨e, fun i hi => q i (by omega)⟩, fun q j hj => q.2 j (by rw [← e]; exact hj)⟩
  · have t : ((h.length : Int) == (K : Int)) = false := by rw [beq_eq_false_iff_ne]; omega
    rw [t, okTo_false]
    exact ⟨fun q => Bool.noConfusion q, fun q => absurd q.1 e⟩

set_option maxRecDepth 100000 in
set_option maxHeartbeats 1000000 in
theorem haveLists_any (x : ByteArray) (A : Option Addr) (c K : Nat) (m : Int) (es : List Ent) (w : World) (h : HasL w w.heap.size A es) (hn : es.length ≤ 4000) (_hK : K ≤ 4000) :
    Calls Tryd.prog 64 #[.string x, .slice A es.length c, .int .i64 K, .int .i64 m] w fun e w' => ∃ v, e = .returned v ∧ ((OkLists K m (nums es) ∧ IsF 0 v w') ∨ (¬ OkLists K m (nums es) ∧ IsF 3 v w')) ∧ Below w.heap.size w w' := by
  obtain ⟨b, hb⟩ : ∃ b, b = ((es.length : Int) == (K : Int)) := ⟨_, rfl⟩
  have HD : Hid (okTo b m (nums es) es.length = true ↔ OkLists K m (nums es)) := by
    show _ ↔ _
    have := okTo_lists K m (nums es)
    rw [nums_len, ← hb] at this
    exact this
  have hb' := hb.symm
  clear hb
  have H := Lib.hid h
  clear h
  go_enter Tryd.func64, Tryd.ntmps64
  go_wp2
  go_loopw [9, 11, 18] (fun v _ i wr => ∃ k n : Nat, k ≤ es.length ∧ i = .int .i64 k ∧ v = .bool (okTo b m (nums es) k) ∧ wr = w.drewN n) (fun _ _ i _ => es.length - (intOf i).toNat)
  case atStart => exact ⟨0, 0, by omega, rfl, by first | rfl | (show _ = Value.bool b; rw [← hb']), rfl⟩
  case round =>
    obtain ⟨k, n, hk, rfl, rfl, rfl⟩ := hrel
    by_cases hlt : k < es.length
    · obtain ⟨⟨a, rfl, hab, hac⟩, hh⟩ := H.out k hlt
      have hnx : okTo b m (nums es) (k + 1) = (okTo b m (nums es) k && okB m es[k].l) := by
        show (okTo b m (nums es) k && okB m ((nums es).getD k [])) = _
        rw [nums_at es hlt]
      have HNX := Lib.hid hnx
      have HH := Lib.hid hh
      clear hnx hh
      generalize okTo b m (nums es) k = ok at HNX ⊢
      generalize es[k] = en at hac HNX HH
      cases ok with
      | true =>
        go_wp2_with (go_at_call 76; refine (isList_any en.A en.c w.heap.size m en.l _ (HH.out.drewN n)).mono ?_; rintro e w' ⟨rfl, rfl⟩)
        go_roundw
        case rel => exact ⟨k + 1, n, by omega, by go_num, by rw [HNX.out]; rfl, rfl⟩
        case measure => simp [intOf]; omega
      | false =>
        go_wp2
        go_roundw
        case rel => exact ⟨k + 1, n, by omega, by go_num, by rw [HNX.out]; rfl, rfl⟩
        case measure => simp [intOf]; omega
    · have e : k = es.length := by omega
      subst e
      have hd := HD.out
      generalize okTo b m (nums es) es.length = ok at hd ⊢
      cases ok with
      | true =>
        have HOK := Lib.hid (hd.1 rfl)
        clear hd
        go_wp2_with (go_at_call 75; refine (unless_any true 3 x _ (by decide)).mono ?_; rintro e w' ⟨v, rfl, hv, hbb⟩; have HV := Lib.hid hv; have HBB := Lib.hid hbb; clear hv hbb)
        go_ret
        exact ⟨_, rfl, .inl ⟨HOK.out, HV.out⟩, below_next (below_drewN (Below.refl _ w) n) HBB.out⟩
      | false =>
        have HNO : Hid (¬ OkLists K m (nums es)) := fun q => Bool.noConfusion (hd.2 q)
        clear hd
        go_wp2_with (go_at_call 75; refine (unless_any false 3 x _ (by decide)).mono ?_; rintro e w' ⟨v, rfl, hv, hbb⟩; have HV := Lib.hid hv; have HBB := Lib.hid hbb; clear hv hbb)
        go_ret
        exact ⟨_, rfl, .inr ⟨HNO.out, HV.out⟩, below_next (below_drewN (Below.refl _ w) n) HBB.out⟩
end Go.Proofs.YtoigpehpgpogfaaDoor
