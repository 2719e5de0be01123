/- Contracts: who is above whom, and one more, by the document's own code; the statements' own remainder. -/
import Derived.Test.YtjpmglnhnfnmnaaDoorTd
namespace Go.Proofs.YtjpmglnhnfnmnaaDoor
open Go.RowKit Slices

theorem mem_take_succ {l : List Int} {j : Nat} {n : Int} (h : j < l.length) : n ∈ l.take (j + 1) ↔ n ∈ l.take j ∨ l.getD j 0 = n := by
  rw [List.take_succ_eq_append_getElem h, List.getD_eq_getElem?_getD, List.getElem?_eq_getElem h, List.mem_append, List.mem_singleton]
  show n ∈ l.take j ∨ n = l[j] ↔ n ∈ l.take j ∨ l[j] = n
  rw [eq_comm (a := n)]

set_option maxRecDepth 100000 in
set_option maxHeartbeats 1000000 in
theorem refAbove_any (A : Option Addr) (n c : Nat) (l : List Ten) (a b : Int) (w : World) (h : RdT w A n c l) (hb : I64 b) :
    Calls Tryd.prog 16 #[.slice A n c, .int .i64 a, .int .i64 b] w fun e w' => e = .returned (.bool (decide (a ∈ pathT l b))) ∧ Below w.heap.size w w' := by
  have H := Lib.hid h
  have HB := Lib.hid hb
  clear h hb
  go_enter Tryd.func16, Tryd.ntmps16
  go_wp2_with fail
  refine (refPath_any A n c l b w H.out HB.out).mono ?_
  rintro e w1 ⟨A5, c5, rfl, ho, hb⟩
  have B1 := Lib.hid hb
  have R1 := Lib.hid (own_read ho)
  obtain ⟨P, hP⟩ : ∃ P, P = pathT l b := ⟨_, rfl⟩
  have few : P.length ≤ 8 := by rw [hP]; exact path_few l b
  rw [← hP] at R1 ⊢
  have HP := Lib.hid hP
  clear hb ho hP
  go_wp2
  go_loopw [8] (fun i wr => ∃ k : Nat, k ≤ P.length ∧ i = .int .i64 k ∧ wr = w1 ∧ a ∉ P.take k) (fun i _ => P.length - (intOf i).toNat)
  case atStart => exact ⟨0, by omega, rfl, rfl, by simp⟩
  case round =>
    obtain ⟨k, hk, rfl, hw, hr⟩ := hrel
    obtain rfl := hw
    have HR := Lib.hid hr
    clear hr
    by_cases hlt : k < P.length
    · obtain ⟨ad, rfl, _, hc⟩ := R1.out k hlt
      obtain ⟨x, hx⟩ : ∃ x, x = P.getD k 0 := ⟨_, rfl⟩
      rw [← hx] at hc
      have HX := Lib.hid hx
      clear hx
      by_cases hq : x = a
      · subst hq
        have hm : Hid (x ∈ P) := by
          rw [HX.out, List.getD_eq_getElem?_getD, List.getElem?_eq_getElem hlt]
          exact Lib.hid (List.getElem_mem hlt)
        go_wp2
        go_ret
        exact ⟨ret_bool (by rw [← HP.out]; exact (decide_eq_true hm.out).symm), B1.out⟩
      · have t1 : (x == a) = false := beq_eq_false_iff_ne.2 hq
        go_wp2
        go_roundw
        case rel => exact ⟨k + 1, by omega, by go_num, trivial, fun q => by
          rcases (mem_take_succ hlt).1 q with q | q
          · exact HR.out q
          · rw [← HX.out] at q; exact hq q⟩
        case measure => simp [intOf]; omega
    · obtain rfl : k = P.length := by omega
      have hm : Hid (a ∉ P) := by have q := HR.out; rw [List.take_length] at q; exact q
      go_wp2
      go_ret
      exact ⟨ret_bool (by rw [← HP.out]; exact (decide_eq_false hm.out).symm), B1.out⟩

/-- what one more makes of a list, and its number -/
def addL (l : List Ten) (p : Int) (nm : ByteArray) (k : Int) : List Ten := if k = 0 then moreT l p nm else []
def addN (l : List Ten) (k : Int) : Int := if k = 0 then (l.length : Int) + 1 else 0
theorem Tryd.infoT : (Tryd.prog.info? 46).map (fun i => (i.zero, i.size, i.bytes)) = some (some (.agg #[.int .i64 0, .int .i64 0, .string ByteArray.empty]), 3, 32) := by kernel_rfl
/-- a list of tenants is told -/
def OwnT (w : World) (B : Nat) (A : Option Addr) (n c : Nat) (l : List Ten) : Prop := w.ownsRow B 46 3 (.slice A n c) n (cellsT l)
theorem OwnT.next {w w' : World} {B n c : Nat} {A : Option Addr} {l : List Ten} (h : OwnT w B A n c l) (hb : Below w.heap.size w w') : OwnT w' B A n c l := ownT_next h hb
theorem ownT_nil (w : World) (B : Nat) : OwnT w B none 0 0 [] := World.ownsRow_nil _ _ _ _

/-- what the document's Add tells -/
def AddRes (w : World) (l : List Ten) (p : Int) (nm : ByteArray) (e : Ending) (w' : World) : Prop :=
  ∃ k A' n' c', AddT l p nm k ∧ e = .returned (.tuple #[.slice A' n' c', .int .i64 (addN l k), .int .i64 k]) ∧ OwnT w' w.heap.size A' n' c' (addL l p nm k) ∧ Below w.heap.size w w'
set_option maxRecDepth 100000 in
set_option maxHeartbeats 2000000 in
theorem refAdd_any (A : Option Addr) (n c : Nat) (l : List Ten) (p : Int) (nm : ByteArray) (w : World) (h : RdT w A n c l) (hs : nm.size ≤ 4000) :
    Calls Tryd.prog 9 #[.slice A n c, .int .i64 p, .string nm] w (AddRes w l p nm) := by
  obtain ⟨i0, hi0, hz0, hz1, hz2⟩ := info_parts Tryd.infoT
  have HN := Lib.hid h.len
  have H := Lib.hid h
  have few := h.few
  clear h
  by_cases m : MayT l
  · have HM := Lib.hid m
    have MC := Lib.hid (mayC_yes m)
    clear m
    by_cases ht : 1 ≤ p ∧ p ≤ (n : Int)
    · have HT := Lib.hid (decide_eq_true ht)
      have HT2 := Lib.hid ht
      clear ht
      by_cases s1 : nm.size < 1
      · go_enter Tryd.func9, Tryd.ntmps9
        go_wp2_with fail
        refine (refMay_any A n c l w H.out).mono ?_
        rw [MC.out]
        rintro e w1 ⟨rfl, hb⟩
        have B1 := Lib.hid hb
        clear hb
        go_wp2_with (go_at_call 25; refine (there_any A n c p w1 (by omega)).mono ?_; rw [HT.out]; rintro e w2 ⟨rfl, rfl⟩)
        go_ret3
        exact ⟨2, none, 0, 0, .name HM.out (by rw [← HN.out]; exact HT2.out) (by omega), rfl, ownT_nil _ _, B1.out⟩
      by_cases s2 : 300 < nm.size
      · go_enter Tryd.func9, Tryd.ntmps9
        go_wp2_with fail
        refine (refMay_any A n c l w H.out).mono ?_
        rw [MC.out]
        rintro e w1 ⟨rfl, hb⟩
        have B1 := Lib.hid hb
        clear hb
        go_wp2_with (go_at_call 25; refine (there_any A n c p w1 (by omega)).mono ?_; rw [HT.out]; rintro e w2 ⟨rfl, rfl⟩)
        go_ret3
        exact ⟨2, none, 0, 0, .name HM.out (by rw [← HN.out]; exact HT2.out) (by omega), rfl, ownT_nil _ _, B1.out⟩
      go_enter Tryd.func9, Tryd.ntmps9
      go_wp2_with fail
      refine (refMay_any A n c l w H.out).mono ?_
      rw [MC.out]
      rintro e w1 ⟨rfl, hb⟩
      have B1 := Lib.hid hb
      have H1 := Lib.hid (H.out.next hb)
      clear hb
      go_wp2_with (go_at_call 25; refine (there_any A n c p w1 (by omega)).mono ?_; rw [HT.out]; rintro e w2 ⟨rfl, rfl⟩)
      go_loopw [9] (fun i wr => ∃ j q : Nat, j ≤ n ∧ i = .int .i64 j ∧ wr = w1.drewN q ∧ ∀ i, i < j → ¬ ((tg l i).par = p ∧ (tg l i).nm = nm)) (fun i _ => n - (intOf i).toNat)
      case atStart => exact ⟨0, 0, by omega, rfl, rfl, fun j hj => by cases hj⟩
      case round =>
        obtain ⟨j, q, hj, rfl, rfl, hd⟩ := hrel
        have HD := Lib.hid hd
        clear hd
        by_cases hjn : j < n
        · obtain ⟨a, rfl, _, b0, b1, b2⟩ := H1.out.has.at (k := j) (by rw [← HN.out]; exact hjn)
          rw [← add_add3 a (j * 3) 1] at b1
          rw [← add_add3 a (j * 3) 2] at b2
          obtain ⟨p', hp'⟩ : ∃ x, x = (tg l j).par := ⟨_, rfl⟩
          obtain ⟨s', hs'⟩ : ∃ x, x = (tg l j).nm := ⟨_, rfl⟩
          rw [← hp'] at b1
          rw [← hs'] at b2
          have HP := Lib.hid hp'
          have HS := Lib.hid hs'
          have b1' : w1.cell? ⟨(a.add (j * 3)).block, (a.add (j * 3)).off + 1, none⟩ = some (.int .i64 p') := b1
          have b2' : w1.cell? ⟨(a.add (j * 3)).block, (a.add (j * 3)).off + 2, none⟩ = some (.string s') := b2
          clear b0 b1 b2 hp' hs'
          by_cases q1 : p' = p
          · subst q1
            by_cases q2 : s' = nm
            · subst q2
              go_wp2
              go_ret3
              exact ⟨13, none, 0, 0, .twice HM.out (by rw [← HN.out]; exact HT2.out) (by omega) ⟨j, by rw [← HN.out]; exact hjn, HP.out.symm, HS.out.symm⟩, rfl, ownT_nil _ _, below_drewN B1.out _⟩
            · have t1 : (s'.toList == nm.toList) = false := by
                cases h : (s'.toList == nm.toList)
                · rfl
                · exact absurd ((bytes_eq _ _).1 h) q2
              go_wp2
              go_roundw
              case rel => exact ⟨j + 1, q, by omega, by go_num, rfl, fun i hi q => by
                by_cases e : i = j
                · rw [e, ← HS.out] at q; exact q2 q.2
                · exact HD.out i (by omega) q⟩
              case measure => simp [intOf]; omega
          · have t1 : (p' == p) = false := beq_eq_false_iff_ne.2 q1
            go_wp2
            go_roundw
            case rel => exact ⟨j + 1, q, by omega, by go_num, rfl, fun i hi q => by
              by_cases e : i = j
              · rw [e, ← HP.out] at q; exact q1 q.1
              · exact HD.out i (by omega) q⟩
            case measure => simp [intOf]; omega
        · obtain rfl : j = n := by omega
          have HC : Hid (¬ ChildT l p nm) := fun ⟨i, hi, hp⟩ => HD.out i (by rw [HN.out]; exact hi) hp
          clear HD
          by_cases h8 : 8 ≤ j
          · go_wp2
            go_ret3
            exact ⟨12, none, 0, 0, .full HM.out (by rw [← HN.out]; exact HT2.out) (by omega) HC.out (by rw [← HN.out]; exact h8), rfl, ownT_nil _ _, below_drewN B1.out _⟩
          · have hk : Hid (AddT l p nm 0) := .yes HM.out (by rw [← HN.out]; exact HT2.out) (by omega) HC.out (by rw [← HN.out]; omega)
            have HL : Hid ((cellsT l).length = j * 3) := by rw [HN.out]; exact Lib.hid (cellsT_len l)
            have HR := Lib.hid H1.out.has
            have HNO := Lib.hid H1.out.none
            obtain ⟨W, hW⟩ : ∃ W, W = w1.drewN q := ⟨_, rfl⟩
            have BW : Hid (Below w.heap.size w W) := by rw [hW]; exact below_drewN B1.out _
            have RW : Hid (HasT W W.heap.size A l) := by rw [hW]; exact HR.out.drewN q
            rw [← hW]
            clear hW HR
            go_wp2_with (at_builtin; first
              | (refine append_any W rfl (.const (.slice none 0 0)) (.tmp 54) 22 rfl w.heap.size 46 i0 (.agg #[.int .i64 0, .int .i64 0, .string ByteArray.empty]) 3 32 Tryd.underlying22 hi0 hz0 hz1 hz2 rfl (by decide) _ 0 [] rfl (World.ownsRow_nil _ _ _ _) A j c (cellsT l) rfl HL.out HNO.out RW.out.cells (cellsT_plain l) (by unfold maxLen; omega) (by omega) BW.out.size ?_; intro v4 w4 hown hgr; have O4 := Lib.hid hown; have N4 : Hid (Below w.heap.size w w4) := BW.out.grown hgr BW.out.size (fun q hq => by cases hq); clear hown hgr)
              | (refine append_any _ rfl (.tmp 56) (.tmp 63) 22 rfl w.heap.size 46 i0 (.agg #[.int .i64 0, .int .i64 0, .string ByteArray.empty]) 3 32 Tryd.underlying22 hi0 hz0 hz1 hz2 rfl (by decide) v4 (0 + j) _ rfl (O4.out.alloc _) (some ⟨w4.heap.size, 0, none⟩) 1 1 (cellsOf ⟨(j : Int) + 1, p, nm⟩) rfl rfl (fun h => by cases h) (fun ad e => by injection e with e; subst e; exact World.news_of_block (cs := #[.int .i64 ((j : Int) + 1), .int .i64 p, .string nm]) (t := 46) (fr := (0, 0)) (heap_alloc_new w4 _)) (by simp [Value.oneCell', cellsOf]) (by unfold maxLen; omega) (by omega) (by have := N4.out.size; simp; omega) ?_; intro v5 w5 hown hgr; have O5 := Lib.hid hown; have N5 : Hid (Below w.heap.size w w5) := (N4.out.alloc N4.out.size _).grown hgr (by have := N4.out.size; simp; omega) (fun q hq => (O4.out.lt q hq).1); clear hown hgr))
            obtain ⟨A5, c5, rfl⟩ := ownT_slice O5.out
            have eL : ([] ++ cellsT l) ++ cellsOf ⟨(j : Int) + 1, p, nm⟩ = cellsT (addL l p nm 0) := by
              show _ = cellsT (moreT l p nm)
              unfold moreT
              rw [cellsT_app, cellsT_one, ← HN.out, List.nil_append]
            have P5 : Hid (OwnT w5 w.heap.size A5 (0 + j + 1) c5 (addL l p nm 0)) := by
              have q := O5.out
              rw [eL] at q
              exact q
            have eN : addN l 0 = (j : Int) + 1 := by rw [HN.out]; rfl
            clear O5 eL
            go_ret3
            have hret : Ending.returned (.tuple #[.slice A5 (0 + j + 1) c5, .int .i64 ((j : Int) + 1), .int .i64 0]) = .returned (.tuple #[.slice A5 (0 + j + 1) c5, .int .i64 (addN l 0), .int .i64 0]) := by rw [eN]
            exact ⟨0, A5, 0 + j + 1, c5, hk.out, hret, P5.out, N5.out⟩
    · have HT := Lib.hid (decide_eq_false ht)
      have hk : Hid (AddT l p nm 9) := .none HM.out (by rw [← HN.out]; exact ht)
      clear ht
      go_enter Tryd.func9, Tryd.ntmps9
      go_wp2_with fail
      refine (refMay_any A n c l w H.out).mono ?_
      rw [MC.out]
      rintro e w1 ⟨rfl, hb⟩
      have B1 := Lib.hid hb
      clear hb
      go_wp2_with (go_at_call 25; refine (there_any A n c p w1 (by omega)).mono ?_; rw [HT.out]; rintro e w2 ⟨rfl, rfl⟩)
      go_ret3
      exact ⟨9, none, 0, 0, hk.out, rfl, ownT_nil _ _, B1.out⟩
  · have MC := Lib.hid (mayC_no m)
    have hk : Hid (AddT l p nm 2) := .arg m
    clear m
    go_enter Tryd.func9, Tryd.ntmps9
    go_wp2_with fail
    refine (refMay_any A n c l w H.out).mono ?_
    rw [MC.out]
    rintro e w1 ⟨rfl, hb⟩
    have B1 := Lib.hid hb
    clear hb
    go_wp2
    go_ret3
    exact ⟨2, none, 0, 0, hk.out, rfl, ownT_nil _ _, B1.out⟩

/-- the statements' own remainder -/
def low (x n : Int) : Int := x % 18446744073709551616 % n
theorem low_lo (x : Int) {n : Int} (h : 1 ≤ n) : 0 ≤ low x n := Int.emod_nonneg _ (by omega)
theorem low_hi (x : Int) {n : Int} (h : 1 ≤ n) : low x n < n := Int.emod_lt_of_pos _ (by omega)
theorem wrap_low (x n : Int) (h0 : 1 ≤ n) (h1 : n ≤ 4611686018427387904) : wrap64 ((IntKind.u64.wrap x).tmod n) = low x n := by
  have e : IntKind.u64.wrap x = x % 18446744073709551616 := by simp [IntKind.wrap, IntKind.bits, IntKind.signed]
  rw [e, Int.tmod_eq_emod_of_nonneg (by omega)]
  have l0 := low_lo x h0
  have l1 := low_hi x h0
  exact IntWalk.wrap64_in _ (by show -9223372036854775808 ≤ low x n ∧ low x n ≤ 9223372036854775807; omega)
set_option maxHeartbeats 400000 in
theorem lawLow_any (x n : Int) (w : World) (h0 : 1 ≤ n) (h1 : n ≤ 4611686018427387904) :
    Calls Tryd.prog 22 #[.int .i64 x, .int .i64 n] w fun e w' => e = .returned (.int .i64 (low x n)) ∧ w = w' := by
  go_enter Tryd.func22, Tryd.ntmps22
  go_wp2
  go_ret
  exact ⟨ret_int (wrap_low x n h0 h1), rfl⟩
theorem low_some (z n : Int) (w : World) (h0 : 1 ≤ n) (h1 : n ≤ 4611686018427387904) :
    Calls Tryd.prog 22 #[.int .i64 z, .int .i64 n] w fun e w' => ∃ v, e = .returned (.int .i64 v) ∧ 0 ≤ v ∧ v < n ∧ w = w' :=
  (lawLow_any z n w h0 h1).mono fun _ _ h => ⟨low z n, h.1, low_lo z h0, low_hi z h0, h.2⟩

def root : List Ten := [⟨1, 0, ({ data := #[114] } : ByteArray)⟩]
theorem root_may : MayT root := ⟨by decide, fun i hi => by
  have e : i = 0 := by simp [root] at hi; omega
  subst e
  exact ⟨rfl, by decide, by decide, by simp [tg, root], by decide, by decide, fun k hk => by omega⟩⟩
set_option maxHeartbeats 400000 in
theorem root_any (w : World) : Calls Tryd.prog 21 #[] w fun e w' => ∃ g, e = .returned (.slice (some ⟨g, 0, none⟩) 1 1) ∧ OwnT w' w.heap.size (some ⟨g, 0, none⟩) 1 1 root ∧ Below w.heap.size w w' := by
  go_enter Tryd.func21, Tryd.ntmps21
  go_wp2
  go_ret
  refine ⟨w.heap.size, rfl, ⟨rfl, .inr ⟨w.heap.size, 1, #[.int .i64 1, .int .i64 0, .string ({ data := #[114] } : ByteArray)], rfl, Nat.le_refl _, heap_alloc_new w _, by omega, by unfold maxLen; omega, rfl, rfl⟩⟩, (Below.refl _ _).alloc (Nat.le_refl _) _⟩
end Go.Proofs.YtjpmglnhnfnmnaaDoor
