/- Contracts: the landed reader, as it is asked. -/
import Derived.Test.YtmegjjfgiibobaaDoorOg
import Derived.Test.YtmegjjfgiibobaaDoorOd
namespace Go.Proofs.YtmegjjfgiibobaaDoor
open Go.RowKit Slices Go.Proofs.YtmegjjfgiibobaaDoor.Bit

theorem fit_nil : Fit 8 ([] : List Int) := fun i hi => by cases hi
set_option maxHeartbeats 1000000 in
theorem num_yes (B U g : Nat) (l : List Int) (lo hi : Int) (w : World) (h : prL B U g l false w) (hf : Fit 8 l) (hk : rdOk l false lo hi) :
    Calls Tryd.prog 20 #[.pointer (some ⟨g, 0, none⟩), .int .i64 lo, .int .i64 hi] w fun e w' => e = .returned (.int .i64 (rdX l)) ∧ prL B U g (l.drop 8) false w' ∧ w.grownBy w' (some g) := by
  have H := Lib.hid h
  have HF := Lib.hid hf
  have HK := Lib.hid hk
  clear h hf hk
  go_enter Tryd.func20, Tryd.ntmps20
  go_wp2_with fail
  refine (rnumber_yes B g l lo hi _ H.out.2.2.2 HF.out HK.out).mono ?_
  rintro e w1 ⟨rfl, hr, hg⟩
  have hp := prL_rp H.out hr hg
  have HP := Lib.hid hp
  have HG := Lib.hid hg
  clear hr hg hp
  go_wp2
  go_ret
  exact ⟨rfl, HP.out, HG.out⟩
set_option maxHeartbeats 1000000 in
theorem num_no (B U g : Nat) (l : List Int) (bad : Bool) (lo hi : Int) (w : World) (h : prL B U g l bad w) (hf : Fit 8 l) (hk : ¬ rdOk l bad lo hi) :
    Calls Tryd.prog 20 #[.pointer (some ⟨g, 0, none⟩), .int .i64 lo, .int .i64 hi] w fun e w' => e = .returned (.int .i64 0) ∧ (∃ l', Fit 8 l' ∧ l'.length ≤ l.length ∧ prL B U g l' true w') ∧ w.grownBy w' (some g) := by
  have H := Lib.hid h
  have HF := Lib.hid hf
  have HK := Lib.hid hk
  clear h hf hk
  go_enter Tryd.func20, Tryd.ntmps20
  go_wp2_with fail
  refine (rnumber_no B g l bad lo hi _ H.out.2.2.2 HF.out HK.out).mono ?_
  rintro e w1 ⟨rfl, hr, hg⟩
  have hp := prL_rp H.out hr hg
  have HP := Lib.hid hp
  have HG := Lib.hid hg
  clear hr hg hp
  go_wp2
  go_ret
  exact ⟨rfl, ⟨[], fit_nil, Nat.zero_le _, HP.out⟩, HG.out⟩
set_option maxHeartbeats 1000000 in
theorem bytes_yes (B U g : Nat) (l : List Int) (most : Int) (w : World) (h : prL B U g l false w) (hf : Fit 8 l) (hl : l.length ≤ 10000) (hk : rdBOk l false most) :
    Calls Tryd.prog 22 #[.pointer (some ⟨g, 0, none⟩), .int .i64 most] w fun e w' => ∃ A' c', e = .returned (.slice A' (rdX l).toNat c') ∧ w'.ownsRow w.heap.size 5 1 (.slice A' (rdX l).toNat c') (rdX l).toNat (ints .u8 ((l.drop 8).take (rdX l).toNat)) ∧ prL B U g (l.drop (8 + (rdX l).toNat)) false w' ∧ w.grownBy w' (some g) := by
  have H := Lib.hid h
  have HF := Lib.hid hf
  have HK := Lib.hid hk
  have hle := hk.2.2
  have HT : Hid (((l.drop 8).take (rdX l).toNat).length = (rdX l).toNat) := by show List.length _ = _; rw [List.length_take, List.length_drop]; omega
  clear h hf hk
  go_enter Tryd.func22, Tryd.ntmps22
  go_wp2_with fail
  refine (part_yes B g l most _ H.out.2.2.2 HF.out HK.out).mono ?_
  rintro e w1 ⟨A, c, rfl, hh, hA, hr, hg⟩
  have hp := prL_rp H.out hr hg
  have HP := Lib.hid hp
  have HG := Lib.hid hg
  have HH := Lib.hid hh
  have HA := Lib.hid hA
  clear hr hg hp hh hA
  go_wp2_with fail
  refine (clone_any g (rdX l).toNat c A _ _ HH.out HT.out HA.out (by omega)).mono ?_
  rintro e w2 ⟨A1, c1, rfl, ho, hb⟩
  have HO := Lib.hid (own_down ho HG.out.size)
  have HB := Lib.hid hb
  clear ho hb
  go_wp2
  go_ret
  have hg2 : w1.grownBy w2 (some g) := ⟨HB.out.os, HB.out.tape, HB.out.output, HB.out.size, fun i hi _ => HB.out.block i hi⟩
  exact ⟨A1, c1, rfl, HO.out, prL_keep B U g _ _ _ _ HP.out HB.out.size (fun i _ hi => HB.out.block i (Nat.lt_of_lt_of_le hi HP.out.2.2.1)), grown_two HG.out hg2⟩
set_option maxHeartbeats 1000000 in
theorem bytes_no (B U g : Nat) (l : List Int) (bad : Bool) (most : Int) (w : World) (h : prL B U g l bad w) (hf : Fit 8 l) (hk : ¬ rdBOk l bad most) :
    Calls Tryd.prog 22 #[.pointer (some ⟨g, 0, none⟩), .int .i64 most] w fun e w' => e = .returned (.slice none 0 0) ∧ (∃ l', Fit 8 l' ∧ l'.length ≤ l.length ∧ prL B U g l' true w') ∧ w.grownBy w' (some g) := by
  have H := Lib.hid h
  have HF := Lib.hid hf
  have HK := Lib.hid hk
  clear h hf hk
  go_enter Tryd.func22, Tryd.ntmps22
  go_wp2_with fail
  refine (part_no B g l bad most _ H.out.2.2.2 HF.out HK.out).mono ?_
  rintro e w1 ⟨rfl, hr, hg⟩
  have hp := prL_rp H.out hr hg
  have HP := Lib.hid hp
  have HG := Lib.hid hg
  clear hr hg hp
  go_wp2_with fail
  refine (clone_nil _).mono ?_
  rintro e w2 ⟨rfl, rfl⟩
  go_wp2
  go_ret
  exact ⟨rfl, ⟨[], fit_nil, Nat.zero_le _, HP.out⟩, HG.out⟩
set_option maxHeartbeats 1000000 in
theorem text_yes (B U g : Nat) (l : List Int) (most : Int) (w : World) (h : prL B U g l false w) (hf : Fit 8 l) (hk : rdBOk l false most) :
    Calls Tryd.prog 24 #[.pointer (some ⟨g, 0, none⟩), .int .i64 most] w fun e w' => e = .returned (.string (strOfNums ((l.drop 8).take (rdX l).toNat))) ∧ prL B U g (l.drop (8 + (rdX l).toNat)) false w' ∧ w.grownBy w' (some g) := by
  have H := Lib.hid h
  have HF := Lib.hid hf
  have HK := Lib.hid hk
  have hle := hk.2.2
  have HT : Hid (((l.drop 8).take (rdX l).toNat).length = (rdX l).toNat) := by show List.length _ = _; rw [List.length_take, List.length_drop]; omega
  clear h hf hk
  go_enter Tryd.func24, Tryd.ntmps24
  go_wp2_with fail
  refine (part_yes B g l most _ H.out.2.2.2 HF.out HK.out).mono ?_
  rintro e w1 ⟨A, c, rfl, hh, hA, hr, hg⟩
  have HC := conv_has (n := (rdX l).toNat) (c := c) hh HT.out
  have hp := prL_rp H.out hr hg
  have HP := Lib.hid hp
  have HG := Lib.hid hg
  clear hr hg hp hh hA
  go_wp2
  go_ret
  exact ⟨rfl, HP.out, HG.out⟩
set_option maxHeartbeats 1000000 in
theorem text_no (B U g : Nat) (l : List Int) (bad : Bool) (most : Int) (w : World) (h : prL B U g l bad w) (hf : Fit 8 l) (hk : ¬ rdBOk l bad most) :
    Calls Tryd.prog 24 #[.pointer (some ⟨g, 0, none⟩), .int .i64 most] w fun e w' => e = .returned (.string (strOfNums [])) ∧ (∃ l', Fit 8 l' ∧ l'.length ≤ l.length ∧ prL B U g l' true w') ∧ w.grownBy w' (some g) := by
  have H := Lib.hid h
  have HF := Lib.hid hf
  have HK := Lib.hid hk
  clear h hf hk
  go_enter Tryd.func24, Tryd.ntmps24
  go_wp2_with fail
  refine (part_no B g l bad most _ H.out.2.2.2 HF.out HK.out).mono ?_
  rintro e w1 ⟨rfl, hr, hg⟩
  have HC := conv_has (w := w1) (B := 0) (n := 0) (c := 0) (A := none) (l := []) (Has.nil _ _ _ _) rfl
  have hp := prL_rp H.out hr hg
  have HP := Lib.hid hp
  have HG := Lib.hid hg
  clear hr hg hp
  go_wp2
  go_ret
  exact ⟨rfl, ⟨[], fit_nil, Nat.zero_le _, HP.out⟩, HG.out⟩

set_option maxHeartbeats 1000000 in
theorem left_ps (g n c : Nat) (A : Option Addr) (bad : Bool) (w : World) (h : PS g A n c bad w) :
    Calls Tryd.prog 26 #[.pointer (some ⟨g, 0, none⟩)] w fun e w' => e = .returned (.int .i64 (n : Int)) ∧ w = w' := by
  have c0 := h.c0
  clear h
  go_enter Tryd.func26, Tryd.ntmps26
  go_wp2
  go_ret
  exact ⟨rfl, rfl⟩
theorem left_any (B U g : Nat) (l : List Int) (bad : Bool) (w : World) (h : prL B U g l bad w) :
    Calls Tryd.prog 26 #[.pointer (some ⟨g, 0, none⟩)] w fun e w' => e = .returned (.int .i64 (leftI l bad)) ∧ Below w.heap.size w w' := by
  obtain ⟨_, _, _, h1, A, c, h2, _⟩ := h
  refine (left_ps g l.length c A bad w h2).mono ?_
  rintro e w' ⟨he, rfl⟩
  refine ⟨he.trans ?_, Below.refl _ _⟩
  cases bad with
  | true => rw [(h1 rfl).1]; rfl
  | false => rfl
theorem left_none (w : World) : Calls Tryd.prog 26 #[.pointer none] w fun e w' => e = .returned (.int .i64 0) ∧ Below w.heap.size w w' := by
  go_enter Tryd.func26, Tryd.ntmps26
  go_wp2
  go_ret
  exact ⟨rfl, Below.refl _ _⟩

theorem unless_yes (c : Int) (x : Value) (w : World) :
    Calls Tryd.prog 51 #[.bool true, .int .i64 c, x] w fun e w' => e = .returned .nilIface ∧ w = w' := by
  go_enter Tryd.func51, Tryd.ntmps51
  go_wp2
  go_ret
  exact ⟨rfl, rfl⟩
theorem unless_no (c : Int) (x : ByteArray) (w : World) :
    Calls Tryd.prog 51 #[.bool false, .int .i64 c, .string x] w fun e w' => e = .returned (.iface 58 (.pointer (some ⟨w.heap.size, 0, none⟩))) ∧ w' = w.alloc (.cells #[.int .i64 c, .string x] 63) := by
  go_enter Tryd.func51, Tryd.ntmps51
  go_wp2
  go_ret
  exact ⟨rfl, rfl⟩
theorem wrap_nil (x : ByteArray) (w : World) :
    Calls Tryd.prog 40 #[.string x, .nilIface] w fun e w' => e = .returned .nilIface ∧ w = w' := by
  go_enter Tryd.func40, Tryd.ntmps40
  go_wp2
  go_ret
  exact ⟨rfl, rfl⟩
theorem wrap_one (x : ByteArray) (p : Addr) (w : World) :
    Calls Tryd.prog 40 #[.string x, .iface 58 (.pointer (some p))] w fun e w' => e = .returned (.iface 83 (.pointer (some ⟨w.heap.size, 0, none⟩))) ∧ w' = w.alloc (.cells #[.string x, .iface 58 (.pointer (some p))] 85) := by
  go_enter Tryd.func40, Tryd.ntmps40
  go_wp2
  go_ret
  exact ⟨rfl, rfl⟩
/-- an error whose number is c, not wrapped; of 0 none -/
def IsF (c : Int) (v : Value) (w : World) : Prop := (c = 0 ∧ v = .nilIface) ∨ (c ≠ 0 ∧ ∃ p : Addr, v = .iface 58 (.pointer (some p)) ∧ w.cell? p = some (.int .i64 c))
theorem isF_new {c : Int} {w : World} {x : Value} (h : c ≠ 0) : IsF c (.iface 58 (.pointer (some ⟨w.heap.size, 0, none⟩))) (w.alloc (.cells #[.int .i64 c, x] 63)) :=
  .inr ⟨h, _, rfl, by simp⟩
theorem wrap_any (x : ByteArray) (c : Int) (v : Value) (w : World) (h : IsF c v w) :
    Calls Tryd.prog 40 #[.string x, v] w fun e w' => ∃ v', e = .returned v' ∧ IsErr c v' w' ∧ Below w.heap.size w w' := by
  rcases h with ⟨rfl, rfl⟩ | ⟨h0, p, rfl, hc⟩
  · exact (wrap_nil x w).mono fun e w' q => ⟨_, q.1, .inl ⟨rfl, rfl⟩, by rw [← q.2]; exact Below.refl _ _⟩
  · refine (wrap_one x p w).mono fun e w' ⟨q1, q2⟩ => ?_
    subst q2
    exact ⟨_, q1, .inr ⟨h0, _, p, rfl, by simp, cell_below hc ((Below.refl _ _).alloc (Nat.le_refl _) _)⟩, (Below.refl _ _).alloc (Nat.le_refl _) _⟩

theorem ended_none (w : World) : Calls Tryd.prog 41 #[.pointer none] w fun e w' => ∃ v, e = .returned v ∧ IsF 1 v w' ∧ Below w.heap.size w w' := by
  go_enter Tryd.func41, Tryd.ntmps41
  go_wp2_with fail
  refine (unless_no 1 _ _).mono ?_
  rintro e w1 ⟨rfl, rfl⟩
  go_wp2
  go_ret
  exact ⟨_, rfl, isF_new (by decide), (Below.refl _ _).alloc (Nat.le_refl _) _⟩
set_option maxHeartbeats 1000000 in
theorem ended_ps (g n c : Nat) (A : Option Addr) (bad : Bool) (w : World) (h : PS g A n c bad w) :
    Calls Tryd.prog 41 #[.pointer (some ⟨g, 0, none⟩)] w fun e w' => ∃ v, e = .returned v ∧ IsF (if bad = true ∨ 0 < n then 4 else 0) v w' ∧ Below w.heap.size w w' := by
  have c0 := h.c0
  have c1 := h.c1
  clear h
  cases bad with
  | true =>
    rw [if_pos (.inl rfl)]
    go_enter Tryd.func41, Tryd.ntmps41
    go_wp2_with fail
    refine (unless_yes 1 _ _).mono ?_
    rintro e w1 ⟨rfl, rfl⟩
    go_wp2_with fail
    refine (unless_no 4 _ _).mono ?_
    rintro e w1 ⟨rfl, rfl⟩
    go_wp2
    go_ret
    exact ⟨_, rfl, isF_new (by decide), (Below.refl _ _).alloc (Nat.le_refl _) _⟩
  | false =>
    by_cases hn : 0 < n
    · rw [if_pos (.inr hn)]
      have d : ((n : Int) == 0) = false := by rw [beq_eq_false_iff_ne]; omega
      go_enter Tryd.func41, Tryd.ntmps41
      go_wp2_with fail
      refine (unless_yes 1 _ _).mono ?_
      rintro e w1 ⟨rfl, rfl⟩
      go_wp2_with fail
      refine (unless_yes 4 _ _).mono ?_
      rintro e w1 ⟨rfl, rfl⟩
      go_wp2_with fail
      refine (unless_no 4 _ _).mono ?_
      rintro e w1 ⟨rfl, rfl⟩
      go_wp2
      go_ret
      exact ⟨_, rfl, isF_new (by decide), (Below.refl _ _).alloc (Nat.le_refl _) _⟩
    · rw [if_neg (by simp; omega)]
      obtain rfl : n = 0 := by omega
      go_enter Tryd.func41, Tryd.ntmps41
      go_wp2_with fail
      refine (unless_yes 1 _ _).mono ?_
      rintro e w1 ⟨rfl, rfl⟩
      go_wp2_with fail
      refine (unless_yes 4 _ _).mono ?_
      rintro e w1 ⟨rfl, rfl⟩
      go_wp2_with fail
      refine (unless_yes 4 _ _).mono ?_
      rintro e w1 ⟨rfl, rfl⟩
      go_wp2
      go_ret
      exact ⟨_, rfl, .inl ⟨rfl, rfl⟩, Below.refl _ _⟩
theorem end_of (r : Value) (c : Int) (w : World) (h : Calls Tryd.prog 41 #[r] w fun e w' => ∃ v, e = .returned v ∧ IsF c v w' ∧ Below w.heap.size w w') :
    Calls Tryd.prog 29 #[r] w fun e w' => ∃ v, e = .returned v ∧ IsErr c v w' ∧ Below w.heap.size w w' := by
  have H := Lib.hid h
  clear h
  go_enter Tryd.func29, Tryd.ntmps29
  go_wp2_with fail
  refine H.out.mono ?_
  rintro e w1 ⟨v, rfl, hv, hb⟩
  have HV := Lib.hid hv
  have HB := Lib.hid hb
  clear hv hb
  go_wp2_with fail
  refine (wrap_any _ c v _ HV.out).mono ?_
  rintro e w2 ⟨v2, rfl, hv, hb⟩
  have HV2 := Lib.hid hv
  have HB2 := Lib.hid (below_next HB.out hb)
  clear hv hb
  go_wp2
  go_ret
  exact ⟨_, rfl, HV2.out, HB2.out⟩
end Go.Proofs.YtmegjjfgiibobaaDoor
