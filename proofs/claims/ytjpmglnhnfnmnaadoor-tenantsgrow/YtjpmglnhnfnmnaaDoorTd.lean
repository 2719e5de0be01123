/- Contracts: paths, and who is above whom, by the document's own code. -/
import Derived.Test.YtjpmglnhnfnmnaaDoorTc
namespace Go.Proofs.YtjpmglnhnfnmnaaDoor
open Go.RowKit Slices

theorem path_len {l : List Ten} (m : MayT l) : ∀ b, 1 ≤ b → b ≤ (l.length : Int) → ((pathT l b).length : Int) ≤ b :=
  tenant_rec m fun b h1 h2 ih => by
    have hp := par_lt m h1 h2
    rw [pathT_step m h1 h2, List.length_cons]
    by_cases p1 : 1 ≤ (tg l (b - 1).toNat).par
    · have := ih p1; omega
    · rw [pathT_none (by omega)]; simp; omega
theorem path_few (l : List Ten) (a : Int) : (pathT l a).length ≤ 8 := by
  by_cases m : MayT l
  · by_cases h : 1 ≤ a ∧ a ≤ (l.length : Int)
    · have := path_len m a h.1 h.2
      have := m.few
      omega
    · rw [pathT_none h]; simp
  · rw [pathT_not m]; simp
theorem path_i64 (l : List Ten) (a : Int) : ∀ k, k < (pathT l a).length → I64 ((pathT l a).getD k 0) := fun k hk => by
  have hm : (pathT l a).getD k 0 ∈ pathT l a := by
    rw [List.getD_eq_getElem?_getD, List.getElem?_eq_getElem hk]; exact List.getElem_mem hk
  by_cases m : MayT l
  · by_cases h : 1 ≤ a ∧ a ≤ (l.length : Int)
    · have := path_mem m a h.1 h.2 _ hm
      have := m.few
      unfold I64
      omega
    · rw [pathT_none h] at hk; cases hk
  · rw [pathT_not m] at hk; cases hk
/-- the path so far, and what is left of it -/
def PathAt (w : World) (l : List Ten) (a : Int) (cur v : Value) (wr : World) : Prop :=
  ∃ (b : Int) (out : List Int), cur = .int .i64 b ∧ I64 b ∧ wr.ownsRow w.heap.size 3 1 v out.length (ints .i64 out) ∧ out ++ pathT l b = pathT l a ∧ Below w.heap.size w wr

set_option maxRecDepth 100000 in
set_option maxHeartbeats 1000000 in
theorem refPath_any (A : Option Addr) (n c : Nat) (l : List Ten) (a : Int) (w : World) (h : RdT w A n c l) (ha : I64 a) :
    Calls Tryd.prog 14 #[.slice A n c, .int .i64 a] w (Res .i64 3 w (pathT l a)) := by
  obtain ⟨i0, hi0, hz0, hz1, hz2⟩ := info_parts Tryd.info3
  have HN := Lib.hid h.len
  have H := Lib.hid h
  have HA := Lib.hid ha
  have few := h.few
  clear h ha
  go_enter Tryd.func14, Tryd.ntmps14
  go_wp2
  go_loopw [1, 5] (fun cur v wr => PathAt w l a cur v wr) (fun cur _ _ => (intOf cur).toNat)
  case atStart => exact ⟨a, [], rfl, HA.out, World.ownsRow_nil _ _ _ _, by simp, Below.refl _ _⟩
  case round =>
    obtain ⟨b, out, rfl, hb, ho, hp, hw⟩ := hrel
    obtain ⟨A5, c5, rfl⟩ := own_slice ho
    have IB := Lib.hid hb
    have HO := Lib.hid ho
    have HP := Lib.hid hp
    have HB := Lib.hid hw
    have i1 := hb.1
    have i2 := hb.2
    have of : out.length ≤ 8 := by have := congrArg List.length hp; rw [List.length_append] at this; have := path_few l a; omega
    clear hb ho hp hw
    by_cases m : MayT l
    · have HM := Lib.hid m
      have MC := Lib.hid (mayC_yes m)
      clear m
      by_cases ht : 1 ≤ b ∧ b ≤ (n : Int)
      · have HT := Lib.hid (decide_eq_true ht)
        have ht1 := ht.1
        have ht2 := ht.2
        clear ht
        go_wp2_with fail
        refine (refMay_any A n c l wr (H.out.next HB.out)).mono ?_
        rw [MC.out]
        rintro e w1 ⟨rfl, hb⟩
        have B1 := Lib.hid (below_next HB.out hb)
        have O1 := Lib.hid (own_next HO.out hb)
        clear hb HB HO
        go_wp2_with fail
        refine (there_any A n c b w1 (by omega)).mono ?_
        rw [HT.out]
        rintro e w2 ⟨rfl, rfl⟩
        obtain ⟨K, hK⟩ : ∃ K : Nat, b - 1 = (K : Int) := ⟨(b - 1).toNat, by omega⟩
        have hkn : K < n := by omega
        obtain ⟨ad, rfl, hab, a0, a1, a2⟩ := H.out.has.at (k := K) (by rw [← HN.out]; exact hkn)
        obtain ⟨p, hp⟩ : ∃ p, p = (tg l K).par := ⟨_, rfl⟩
        rw [← hp] at a1
        have hpl : Hid (0 ≤ p ∧ p < b ∧ pathT l b = b :: pathT l p) := by
          have eK : (b - 1).toNat = K := by omega
          have q := par_lt HM.out ht1 (by rw [← HN.out]; exact ht2)
          have q2 := pathT_step HM.out ht1 (by rw [← HN.out]; exact ht2)
          rw [eK, ← hp] at q q2
          exact ⟨q.1, q.2, q2⟩
        have PL := hpl
        have p0 := hpl.out.1
        have p1 := hpl.out.2.1
        clear hp a0 a2 hpl
        rw [← add_add3 ad (K * 3) 1] at a1
        have HC : Hid (w.cell? ⟨(ad.add (K * 3)).block, (ad.add (K * 3)).off + 1, none⟩ = some (.int .i64 p)) := a1
        have HAB := Lib.hid hab
        clear a1 hab
        go_wp2_with (at_builtin; refine append_any _ rfl (.tmp 13) (.tmp 15) 31 rfl w.heap.size 3 i0 (.int .i64 0) 1 8 Tryd.underlying31 hi0 hz0 hz1 hz2 rfl (by decide) (.slice A5 out.length c5) out.length _ rfl (O1.out.alloc _) (some ⟨w1.heap.size, 0, none⟩) 1 1 [.int .i64 b] rfl rfl (fun h => by cases h) (fun ad e => by injection e with e; subst e; exact World.news_of_block (cs := #[.int .i64 b]) (t := 3) (fr := (0, 0)) (heap_alloc_new w1 _)) (by simp [Value.oneCell']) (by unfold maxLen; omega) (by omega) (by have := B1.out.size; simp; omega) ?_; intro v5 w5 hown hgr; have O5 := Lib.hid hown; have N5 : Hid (Below w.heap.size w w5) := (B1.out.alloc B1.out.size _).grown hgr (by have := B1.out.size; simp; omega) (fun q hq => (O1.out.lt q hq).1); clear hown hgr; have hcell : w5.cell? ⟨(ad.add (K * 3)).block, (ad.add (K * 3)).off + 1, none⟩ = some (.int .i64 p) := (N5.out.cell (by show (ad.add (K * 3)).block < _; rw [add_block]; exact HAB.out)).trans HC.out)
        have L5 : (out ++ [b]).length = out.length + 1 := by simp
        have P5 : Hid (w5.ownsRow w.heap.size 3 1 v5 (out ++ [b]).length (ints .i64 (out ++ [b]))) := by
          have q := O5.out
          rw [ints_snoc] at q
          rw [L5]
          exact q
        have PE : Hid ((out ++ [b]) ++ pathT l p = pathT l a) := by
          have q := HP.out
          rw [PL.out.2.2] at q
          rw [List.append_assoc]
          exact q
        clear O5
        go_roundw
        case rel => exact ⟨p, out ++ [b], rfl, by unfold I64; omega, P5.out, PE.out, N5.out⟩
        case measure => simp [intOf]; omega
      · have HT := Lib.hid (decide_eq_false ht)
        have hn := Lib.hid (pathT_none (l := l) (a := b) (by rw [← HN.out]; exact ht))
        clear ht
        go_wp2_with fail
        refine (refMay_any A n c l wr (H.out.next HB.out)).mono ?_
        rw [MC.out]
        rintro e w1 ⟨rfl, hb⟩
        have B1 := Lib.hid (below_next HB.out hb)
        have O1 := Lib.hid (own_next HO.out hb)
        clear hb HB HO
        go_wp2_with fail
        refine (there_any A n c b w1 (by omega)).mono ?_
        rw [HT.out]
        rintro e w2 ⟨rfl, rfl⟩
        go_wp2
        go_ret
        have e : out = pathT l a := by have := HP.out; rw [hn.out, List.append_nil] at this; exact this
        subst e
        exact res_of O1.out B1.out
    · have MC := Lib.hid (mayC_no m)
      have hn := Lib.hid (pathT_not m b)
      clear m
      go_wp2_with fail
      refine (refMay_any A n c l wr (H.out.next HB.out)).mono ?_
      rw [MC.out]
      rintro e w1 ⟨rfl, hb⟩
      have B1 := Lib.hid (below_next HB.out hb)
      have O1 := Lib.hid (own_next HO.out hb)
      clear hb HB HO
      go_wp2
      go_ret
      have e : out = pathT l a := by have := HP.out; rw [hn.out, List.append_nil] at this; exact this
      subst e
      exact res_of O1.out B1.out
end Go.Proofs.YtjpmglnhnfnmnaaDoor
