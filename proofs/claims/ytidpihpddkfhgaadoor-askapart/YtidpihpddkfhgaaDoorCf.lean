/- Contract: the document's own reader: bytes. -/
import Derived.Test.YtidpihpddkfhgaaDoorCe
namespace Go.Proofs.YtidpihpddkfhgaaDoor
open Go.RowKit Slices Go.Proofs.YtidpihpddkfhgaaDoor.Bit

/-- bytes may be read -/
def rdBOk (l : List Int) (bad : Bool) (most : Int) : Prop := 0 ≤ most ∧ rdOk l bad 0 most ∧ (rdX l).toNat ≤ l.length - 8
theorem grown_two {a b c : World} {g : Nat} (h : a.grownBy b (some g)) (k : b.grownBy c (some g)) : a.grownBy c (some g) := grown_by_trans h k
theorem fit_drop {l : List Int} (h : Fit 8 l) (n : Nat) : Fit 8 (l.drop n) := fun i hi => by
  rw [List.length_drop] at hi
  rw [List.getD_eq_getElem?_getD, List.getElem?_drop, ← List.getD_eq_getElem?_getD]
  exact h _ (by omega)
/-- nothing was read: it is wrong from now on -/
def RbBad (z0 g : Nat) (l : List Int) (w : World) (e : Ending) (w' : World) : Prop := e = .returned (.slice none 0 0) ∧ (∃ l', Fit 8 l' ∧ l'.length ≤ l.length ∧ Rd z0 g l' true w') ∧ w.grownBy w' (some g)

set_option maxRecDepth 100000 in
set_option maxHeartbeats 2000000 in
theorem refRBytes_no (z0 g : Nat) (l : List Int) (bad : Bool) (most : Int) (w : World) (h : Rd z0 g l bad w) (hf : Fit 8 l) (hk : ¬ rdBOk l bad most) :
    Calls Tryd.prog 62 #[.pointer (some ⟨g, 0, none⟩), .int .i64 most] w (RbBad z0 g l w) := by
  have H := Lib.hid h
  have HF := Lib.hid hf
  have HK := Lib.hid hk
  clear h hf hk
  by_cases h0 : 0 ≤ most
  · by_cases hr : rdOk l bad 0 most
    · have hb : bad = false := hr.1
      subst hb
      have hbig : l.length - 8 < (rdX l).toNat := by
        rcases Nat.lt_or_ge (l.length - 8) (rdX l).toNat with q | q
        · exact q
        · exact absurd ⟨h0, hr, q⟩ HK.out
      have x0 : 0 ≤ rdX l := hr.2.2.1
      have HR := Lib.hid hr
      obtain ⟨n, hn⟩ : ∃ n : Nat, rdX l = n := ⟨(rdX l).toNat, by omega⟩
      have hbig2 : l.length - 8 < n := by omega
      have HN := Lib.hid hn
      clear hr hbig x0 hn
      go_enter Tryd.func62, Tryd.ntmps62
      go_wp2_with (go_at_call 60; refine (refRNum_yes z0 g l 0 most _ H.out HF.out HR.out).mono ?_; rw [HN.out]; rintro e w1 ⟨rfl, ⟨A1, k1, r1, r2, r3⟩, hg⟩; rw [List.length_drop] at r1 r3; have c0 := r1.c0; have c1 := r1.c1; have f1 := r1.f 1; have R1 := Lib.hid r1; have R2 := Lib.hid r2; have R3 := Lib.hid r3; have HG := Lib.hid hg; clear r1 r2 r3 hg)
      go_ret
      refine ⟨rfl, ⟨l.drop 8, fit_drop HF.out 8, by rw [List.length_drop]; omega, A1, k1, ?_, has_put R2.out, by rw [List.length_drop]; exact R3.out⟩, grown_two HG.out (grown_cell _ _ _ _)⟩
      rw [List.length_drop]
      exact R1.out.wrong
    · have HR := Lib.hid hr
      clear hr
      go_enter Tryd.func62, Tryd.ntmps62
      go_wp2_with (go_at_call 60; refine (refRNum_no z0 g l bad 0 most _ H.out HF.out HR.out).mono ?_; rintro e w1 ⟨rfl, ⟨A1, k1, r1, r2, r3⟩, hg⟩; have c0 := r1.c0; have c1 := r1.c1; have f1 := r1.f 1; have R1 := Lib.hid r1; have R2 := Lib.hid r2; have R3 := Lib.hid r3; have HG := Lib.hid hg; clear r1 r2 r3 hg)
      go_ret
      exact ⟨rfl, ⟨l, HF.out, Nat.le_refl _, A1, k1, R1.out.wrong, has_put R2.out, R3.out⟩, grown_two HG.out (grown_cell _ _ _ _)⟩
  · have h0' : most < 0 := by omega
    by_cases hr : rdOk l bad 0 0
    · have hb : bad = false := hr.1
      subst hb
      have HR := Lib.hid hr
      have hx : rdX l = 0 := by have := hr.2.2; omega
      have HN := Lib.hid hx
      clear hr hx
      go_enter Tryd.func62, Tryd.ntmps62
      go_wp2_with (go_at_call 60; refine (refRNum_yes z0 g l 0 0 _ H.out HF.out HR.out).mono ?_; rw [HN.out]; rintro e w1 ⟨rfl, ⟨A1, k1, r1, r2, r3⟩, hg⟩; rw [List.length_drop] at r1 r3; have c0 := r1.c0; have c1 := r1.c1; have f1 := r1.f 1; have R1 := Lib.hid r1; have R2 := Lib.hid r2; have R3 := Lib.hid r3; have HG := Lib.hid hg; clear r1 r2 r3 hg)
      go_ret
      refine ⟨rfl, ⟨l.drop 8, fit_drop HF.out 8, by rw [List.length_drop]; omega, A1, k1, ?_, has_put R2.out, by rw [List.length_drop]; exact R3.out⟩, grown_two HG.out (grown_cell _ _ _ _)⟩
      rw [List.length_drop]
      exact R1.out.wrong
    · have HR := Lib.hid hr
      clear hr
      go_enter Tryd.func62, Tryd.ntmps62
      go_wp2_with (go_at_call 60; refine (refRNum_no z0 g l bad 0 0 _ H.out HF.out HR.out).mono ?_; rintro e w1 ⟨rfl, ⟨A1, k1, r1, r2, r3⟩, hg⟩; have c0 := r1.c0; have c1 := r1.c1; have f1 := r1.f 1; have R1 := Lib.hid r1; have R2 := Lib.hid r2; have R3 := Lib.hid r3; have HG := Lib.hid hg; clear r1 r2 r3 hg)
      go_ret
      exact ⟨rfl, ⟨l, HF.out, Nat.le_refl _, A1, k1, R1.out.wrong, has_put R2.out, R3.out⟩, grown_two HG.out (grown_cell _ _ _ _)⟩
end Go.Proofs.YtidpihpddkfhgaaDoor
