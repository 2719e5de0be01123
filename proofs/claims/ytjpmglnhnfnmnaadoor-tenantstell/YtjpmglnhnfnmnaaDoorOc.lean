/- Contracts: paths, and who is above whom, by the program's own code. -/
import Derived.Test.YtjpmglnhnfnmnaaDoorOb
namespace Go.Proofs.YtjpmglnhnfnmnaaDoor
open Go.RowKit Slices

/-- the path so far, and what is left of it -/
def WayAt (w : World) (l : List Ten) (a : Int) (cur v : Value) (wr : World) : Prop :=
  ∃ (b : Int) (out : List Int), cur = .int .i64 b ∧ 0 ≤ b ∧ b ≤ (l.length : Int) ∧ wr.ownsRow w.heap.size 3 1 v out.length (ints .i64 out) ∧ out ++ pathT l b = pathT l a ∧ Below w.heap.size w wr

set_option maxRecDepth 100000 in
set_option maxHeartbeats 1000000 in
theorem pPath_any (A : Option Addr) (n c : Nat) (l : List Ten) (a : Int) (w : World) (h : RdT w A n c l) (_ha : I64 a) :
    Calls Tryd.prog 10 #[.slice A n c, .int .i64 a] w (Res .i64 3 w (pathT l a)) := by
  obtain ⟨i0, hi0, hz0, hz1, hz2⟩ := info_parts Tryd.info3
  have HN := Lib.hid h.len
  have H := Lib.hid h
  have few := h.few
  clear h
  by_cases m : MayT l
  · have HM := Lib.hid m
    have MC := Lib.hid (mayC_yes m)
    clear m
    by_cases ht : 1 ≤ a ∧ a ≤ (n : Int)
    · have HT := Lib.hid (decide_eq_true ht)
      have ht1 := ht.1
      have ht2 := ht.2
      clear ht
      go_enter Tryd.func10, Tryd.ntmps10
      go_wp2_with (first
        | (go_at_call 17; refine (pMay_any A n c l w H.out).mono ?_; rw [MC.out]; rintro e w1 ⟨rfl, hb⟩; have B1 := Lib.hid hb; clear hb)
        | (go_at_call 26; refine (isThere_any A n c a w1 (by omega)).mono ?_; rw [HT.out]; rintro e w2 ⟨rfl, rfl⟩))
      go_loopw [1, 5] (fun cur v wr => WayAt w l a cur v wr) (fun cur _ _ => (intOf cur).toNat)
      case atStart => exact ⟨a, [], rfl, by omega, by rw [← HN.out]; exact ht2, World.ownsRow_nil _ _ _ _, by simp, B1.out⟩
      case round =>
        obtain ⟨b, out, rfl, b0, b1, ho, hp, hw⟩ := hrel
        obtain ⟨A5, c5, rfl⟩ := own_slice ho
        have HO := Lib.hid ho
        have HP := Lib.hid hp
        have HB := Lib.hid hw
        have of : out.length ≤ 8 := by have := congrArg List.length hp; rw [List.length_append] at this; have := path_few l a; omega
        have b2 : b ≤ (n : Int) := by rw [HN.out]; exact b1
        clear ho hp hw b1
        by_cases hb0 : b = 0
        · subst hb0
          have hn := Lib.hid (pathT_none (l := l) (a := 0) (by omega))
          go_wp2
          go_ret
          have e : out = pathT l a := by have := HP.out; rw [hn.out, List.append_nil] at this; exact this
          subst e
          exact res_of HO.out HB.out
        · have b1 : 1 ≤ b := by omega
          obtain ⟨K, hK⟩ : ∃ K : Nat, b - 1 = (K : Int) := ⟨(b - 1).toNat, by omega⟩
          have hkn : K < n := by omega
          obtain ⟨ad, rfl, hab, a0, a1, a2⟩ := H.out.has.at (k := K) (by rw [← HN.out]; exact hkn)
          obtain ⟨p, hp⟩ : ∃ p, p = (tg l K).par := ⟨_, rfl⟩
          rw [← hp] at a1
          have hpl : Hid (0 ≤ p ∧ p < b ∧ pathT l b = b :: pathT l p) := by
            have eK : (b - 1).toNat = K := by omega
            have q := par_lt HM.out b1 (by rw [← HN.out]; exact b2)
            have q2 := pathT_step HM.out b1 (by rw [← HN.out]; exact b2)
            rw [eK, ← hp] at q q2
            exact ⟨q.1, q.2, q2⟩
          have PL := hpl
          have p0 := hpl.out.1
          have p1 := hpl.out.2.1
          clear hp a0 a2 hpl
          rw [← add_add3 ad (K * 3) 1] at a1
          have HC : Hid (w.cell? ⟨(ad.add (K * 3)).block, (ad.add (K * 3)).off + 1, none⟩ = some (.int .i64 p)) := a1
          have HAB := Lib.hid hab
          clear a1 hab
          go_wp2_with (at_builtin; refine append_any _ rfl (.tmp 17) (.tmp 19) 31 rfl w.heap.size 3 i0 (.int .i64 0) 1 8 Tryd.underlying31 hi0 hz0 hz1 hz2 rfl (by decide) (.slice A5 out.length c5) out.length _ rfl (HO.out.alloc _) (some ⟨wr.heap.size, 0, none⟩) 1 1 [.int .i64 b] rfl rfl (fun h => by cases h) (fun ad e => by injection e with e; subst e; exact World.news_of_block (cs := #[.int .i64 b]) (t := 3) (fr := (0, 0)) (heap_alloc_new wr _)) (by simp [Value.oneCell']) (by unfold maxLen; omega) (by omega) (by have := HB.out.size; simp; omega) ?_; intro v5 w5 hown hgr; have O5 := Lib.hid hown; have N5 : Hid (Below w.heap.size w w5) := (HB.out.alloc HB.out.size _).grown hgr (by have := HB.out.size; simp; omega) (fun q hq => (HO.out.lt q hq).1); clear hown hgr; have hcell : w5.cell? ⟨(ad.add (K * 3)).block, (ad.add (K * 3)).off + 1, none⟩ = some (.int .i64 p) := (N5.out.cell (by show (ad.add (K * 3)).block < _; rw [add_block]; exact HAB.out)).trans HC.out)
          have L5 : (out ++ [b]).length = out.length + 1 := by simp
          have P5 : Hid (w5.ownsRow w.heap.size 3 1 v5 (out ++ [b]).length (ints .i64 (out ++ [b]))) := by
            have q := O5.out
            rw [ints_snoc] at q
            rw [L5]
            exact q
          have PE : Hid ((out ++ [b]) ++ pathT l p = pathT l a) := by
            have q := HP.out
            rw [PL.out.2.2] at q
            rw [List.append_assoc]
            exact q
          clear O5
          go_roundw
          case rel => exact ⟨p, out ++ [b], rfl, p0, by rw [← HN.out]; omega, P5.out, PE.out, N5.out⟩
          case measure => simp [intOf]; omega
    · have HT := Lib.hid (decide_eq_false ht)
      have hn := Lib.hid (pathT_none (l := l) (a := a) (by rw [← HN.out]; exact ht))
      clear ht
      go_enter Tryd.func10, Tryd.ntmps10
      go_wp2_with (first
        | (go_at_call 17; refine (pMay_any A n c l w H.out).mono ?_; rw [MC.out]; rintro e w1 ⟨rfl, hb⟩; have B1 := Lib.hid hb; clear hb)
        | (go_at_call 26; refine (isThere_any A n c a w1 (by omega)).mono ?_; rw [HT.out]; rintro e w2 ⟨rfl, rfl⟩))
      go_ret
      rw [hn.out]
      exact res_nil rfl B1.out
  · have MC := Lib.hid (mayC_no m)
    have hn := Lib.hid (pathT_not m a)
    clear m
    go_enter Tryd.func10, Tryd.ntmps10
    go_wp2_with (go_at_call 17; refine (pMay_any A n c l w H.out).mono ?_; rw [MC.out]; rintro e w1 ⟨rfl, hb⟩; have B1 := Lib.hid hb; clear hb)
    go_ret
    rw [hn.out]
    exact res_nil rfl B1.out

set_option maxHeartbeats 1000000 in
theorem index_any (A : Option Addr) (c : Nat) (P : List Int) (x : Int) (w : World) (h : Has .i64 w w.heap.size A P) (few : P.length ≤ 8) :
    Calls Tryd.prog 42 #[.slice A P.length c, .int .i64 x] w fun e w' => ∃ r : Int, e = .returned (.int .i64 r) ∧ -1 ≤ r ∧ r ≤ 8 ∧ decide (x ∈ P) = decide (0 ≤ r) ∧ w = w' := by
  have R1 := Lib.hid h
  clear h
  go_enter Tryd.func42, Tryd.ntmps42
  go_wp2
  go_loopw [5, 8] (fun _ i wr => ∃ k : Nat, k ≤ P.length ∧ i = .int .i64 k ∧ wr = w ∧ x ∉ P.take k) (fun _ i _ => P.length - (intOf i).toNat)
  case atStart => exact ⟨0, by omega, rfl, rfl, by simp⟩
  case round =>
    obtain ⟨k, hk, rfl, hw, hr⟩ := hrel
    obtain rfl := hw
    have HR := Lib.hid hr
    clear hr
    by_cases hlt : k < P.length
    · obtain ⟨ad, rfl, _, hc⟩ := R1.out k hlt
      obtain ⟨y, hy⟩ : ∃ y, y = P.getD k 0 := ⟨_, rfl⟩
      rw [← hy] at hc
      have HX := Lib.hid hy
      clear hy
      by_cases hq : x = y
      · subst hq
        have hm : Hid (x ∈ P) := by
          rw [HX.out, List.getD_eq_getElem?_getD, List.getElem?_eq_getElem hlt]
          exact Lib.hid (List.getElem_mem hlt)
        go_wp2
        go_ret
        exact ⟨k, rfl, by omega, by omega, by rw [decide_eq_true hm.out]; simp, rfl⟩
      · have t1 : (x == y) = false := beq_eq_false_iff_ne.2 hq
        go_wp2
        go_roundw
        case rel => exact ⟨k + 1, by omega, by go_num, trivial, fun q => by
          rcases (mem_take_succ hlt).1 q with q | q
          · exact HR.out q
          · rw [← HX.out] at q; exact hq q.symm⟩
        case measure => simp [intOf]; omega
    · obtain rfl : k = P.length := by omega
      have hm : Hid (x ∉ P) := by have q := HR.out; rw [List.take_length] at q; exact q
      go_wp2
      go_ret
      exact ⟨-1, rfl, by omega, by omega, by rw [decide_eq_false hm.out]; rfl, rfl⟩
set_option maxHeartbeats 400000 in
theorem contains_any (A : Option Addr) (c : Nat) (P : List Int) (x : Int) (w : World) (h : Has .i64 w w.heap.size A P) (few : P.length ≤ 8) :
    Calls Tryd.prog 30 #[.slice A P.length c, .int .i64 x] w fun e w' => e = .returned (.bool (decide (x ∈ P))) ∧ w = w' := by
  have hcall := index_any A c P x w h few
  clear h
  go_enter Tryd.func30, Tryd.ntmps30
  go_wp2_with (go_at_call 42; refine hcall.mono ?_; rintro e w' ⟨r, rfl, r0, r1, hr, rfl⟩; have HR := Lib.hid hr; clear hr)
  go_ret
  exact ⟨ret_bool HR.out.symm, rfl⟩
set_option maxHeartbeats 400000 in
theorem pAbove_any (A : Option Addr) (n c : Nat) (l : List Ten) (a b : Int) (w : World) (h : RdT w A n c l) (hb : I64 b) :
    Calls Tryd.prog 15 #[.slice A n c, .int .i64 a, .int .i64 b] w fun e w' => e = .returned (.bool (decide (a ∈ pathT l b))) ∧ Below w.heap.size w w' := by
  have H := Lib.hid h
  have HB := Lib.hid hb
  clear h hb
  go_enter Tryd.func15, Tryd.ntmps15
  go_wp2_with fail
  refine (pPath_any A n c l b w H.out HB.out).mono ?_
  rintro e w1 ⟨A5, c5, rfl, ho, hb⟩
  have B1 := Lib.hid hb
  have hc := contains_any A5 c5 (pathT l b) a w1 (own_read ho) (path_few l b)
  clear hb ho
  go_wp2_with (go_at_call 30; refine hc.mono ?_; rintro e w' ⟨rfl, rfl⟩)
  go_ret
  exact ⟨rfl, B1.out⟩
end Go.Proofs.YtjpmglnhnfnmnaaDoor
