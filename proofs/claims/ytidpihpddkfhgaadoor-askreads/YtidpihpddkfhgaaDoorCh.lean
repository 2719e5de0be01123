/- Contract: the document's own reader: texts. -/
import Derived.Test.YtidpihpddkfhgaaDoorCg
import Derived.Laws.BytesArg
namespace Go.Proofs.YtidpihpddkfhgaaDoor
open Go.RowKit Slices Go.Proofs.YtidpihpddkfhgaaDoor.Bit

theorem conv_has {w : World} {B n c : Nat} {A : Option Addr} {l : List Int} (h : Has .u8 w B A l) (hn : l.length = n) : (convert 22 9 (.slice A n c)).run Tryd.prog w = .ok (.string (strOfNums l)) w := by
  subst hn
  rcases A with _ | a
  · have h0 : l = [] := by
      cases l with
      | nil => rfl
      | cons x r => obtain ⟨a, e, _⟩ := h 0 (by simp); cases e
    subst h0
    exact run_convert_bytes_nil w 22 5 Tryd.underlying22 Tryd.underlying5 _ c 9 Tryd.underlying9
  · have hl := run_loadCells_list (P := Tryd.prog) w a (l.map (Value.int .u8)) (fun j v hj => h.cells a rfl j v hj)
    rw [List.length_map] at hl
    rw [run_convert_bytes_string w 22 9 5 _ l.length c Tryd.underlying22 Tryd.underlying5 Tryd.underlying9, run_bytesToString w _ l.length c l hl, foldl_push_bytes]
    simp [strOfNums, ByteArray.empty, ByteArray.emptyWithCapacity]
    rfl
theorem str_inj {l l' : List Int} (hf : Fit 8 l) (hf' : Fit 8 l') (h : strOfNums l = strOfNums l') : l = l' := by
  have h1 : (l.map fun n => UInt8.ofNat n.toNat) = l'.map fun n => UInt8.ofNat n.toNat := by
    unfold strOfNums at h
    simpa using h
  have hl : l.length = l'.length := by simpa using congrArg List.length h1
  apply List.ext_getElem hl
  intro i hi hi'
  have e := congrArg (fun x => x[i]?) h1
  simp only [List.getElem?_map, List.getElem?_eq_getElem hi, List.getElem?_eq_getElem hi', Option.map_some, Option.some.injEq] at e
  have f1 := hf i hi
  have f2 := hf' i hi'
  rw [List.getD_eq_getElem?_getD, List.getElem?_eq_getElem hi] at f1
  rw [List.getD_eq_getElem?_getD, List.getElem?_eq_getElem hi'] at f2
  simp only [Option.getD_some] at f1 f2
  have e2 := congrArg UInt8.toNat e
  simp only [UInt8.toNat_ofNat'] at e2
  have g1 : l[i].toNat < 256 := by omega
  have g2 : l'[i].toNat < 256 := by omega
  omega
theorem str_same (l : List Int) : ((strOfNums l).toList == (strOfNums l).toList) = true := by rw [beq_iff_eq]
theorem str_other {l l' : List Int} (h : strOfNums l ≠ strOfNums l') : ((strOfNums l).toList == (strOfNums l').toList) = false := by
  rw [beq_eq_false_iff_ne]
  intro e
  rw [ByteArray.toList_eq, ByteArray.toList_eq] at e
  exact h (ByteArray.ext (Array.toList_inj.mp e))

set_option maxHeartbeats 1000000 in
theorem refRText_yes (z0 g : Nat) (l : List Int) (most : Int) (w : World) (h : Rd z0 g l false w) (hf : Fit 8 l) (hl : l.length ≤ 40000) (hk : rdBOk l false most) :
    Calls Tryd.prog 61 #[.pointer (some ⟨g, 0, none⟩), .int .i64 most] w fun e w' => e = .returned (.string (strOfNums ((l.drop 8).take (rdX l).toNat))) ∧ Rd z0 g (l.drop (8 + (rdX l).toNat)) false w' ∧ w.grownBy w' (some g) := by
  have H := Lib.hid h
  have HF := Lib.hid hf
  have HK := Lib.hid hk
  have HT : Hid (((l.drop 8).take (rdX l).toNat).length = (rdX l).toNat) := by show List.length _ = _; rw [List.length_take, List.length_drop]; have := hk.2.2; omega
  clear h hf hk
  go_enter Tryd.func61, Tryd.ntmps61
  go_wp2_with fail
  refine (refRBytes_yes z0 g l most _ H.out HF.out hl HK.out).mono ?_
  rintro e w1 ⟨A1, k1, rfl, ho, hr, hg⟩
  have HC := conv_has (n := (rdX l).toNat) (c := k1) (own_read (by rw [HT.out]; exact ho)) HT.out
  have HR := Lib.hid hr
  have HG := Lib.hid hg
  clear ho hr hg
  go_wp2
  go_ret
  exact ⟨rfl, HR.out, HG.out⟩
set_option maxHeartbeats 1000000 in
theorem refRText_no (z0 g : Nat) (l : List Int) (bad : Bool) (most : Int) (w : World) (h : Rd z0 g l bad w) (hf : Fit 8 l) (hk : ¬ rdBOk l bad most) :
    Calls Tryd.prog 61 #[.pointer (some ⟨g, 0, none⟩), .int .i64 most] w fun e w' => e = .returned (.string (strOfNums [])) ∧ (∃ l', Fit 8 l' ∧ l'.length ≤ l.length ∧ Rd z0 g l' true w') ∧ w.grownBy w' (some g) := by
  have H := Lib.hid h
  have HF := Lib.hid hf
  have HK := Lib.hid hk
  clear h hf hk
  go_enter Tryd.func61, Tryd.ntmps61
  go_wp2_with fail
  refine (refRBytes_no z0 g l bad most _ H.out HF.out HK.out).mono ?_
  rintro e w1 ⟨rfl, hr, hg⟩
  have HC := conv_has (w := w1) (B := 0) (n := 0) (c := 0) (A := none) (l := []) (Has.nil _ _ _ _) rfl
  have HR := Lib.hid hr
  have HG := Lib.hid hg
  clear hr hg
  go_wp2
  go_ret
  exact ⟨rfl, HR.out, HG.out⟩
end Go.Proofs.YtidpihpddkfhgaaDoor
