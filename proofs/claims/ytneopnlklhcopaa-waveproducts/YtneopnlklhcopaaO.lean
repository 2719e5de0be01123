/- The law WaveTells, walked. -/
import Derived.Test.YtneopnlklhcopaaN
namespace Go.Proofs.Ytneopnlklhcopaa
open Go.RowKit Slices Go.Proofs.Ytneopnlklhcopaa.Ring

/-- what stays: both lists, and what was lent -/
def Env (w0 : World) (A A' : Option Addr) (f g : List Int) (gi : Nat) (w : World) : Prop :=
  Has w w.heap.size A f ∧ Has w w.heap.size A' g ∧ Lent w w0.heap.size gi f ∧ Below w0.heap.size w0 w
theorem Env.next {w0 w w' : World} {A A' : Option Addr} {f g : List Int} {gi : Nat} (h : Env w0 A A' f g gi w) (hb : Below w.heap.size w w') : Env w0 A A' f g gi w' :=
  ⟨has_next h.1 hb, has_next h.2.1 hb, own_next h.2.2.1 hb, h.2.2.2.trans (hb.mono h.2.2.2.size)⟩
theorem Env.drewN {w0 w : World} {A A' : Option Addr} {f g : List Int} {gi : Nat} (h : Env w0 A A' f g gi w) (n : Nat) : Env w0 A A' f g gi (w.drewN n) := ⟨h.1, h.2.1, h.2.2.1, below_drewN h.2.2.2 n⟩
def Mine (B : Nat) (A : Option Addr) (c : Nat) (l : List Int) (w : World) : Prop := w.ownsRow B 3 1 (.slice A l.length c) l.length (ints l) ∧ B ≤ w.heap.size
theorem Mine.next {B c : Nat} {A : Option Addr} {l : List Int} {w w' : World} (h : Mine B A c l w) (hb : Below w.heap.size w w') : Mine B A c l w' := ⟨own_next h.1 hb, Nat.le_trans h.2 hb.size⟩
theorem Mine.drewN {B c : Nat} {A : Option Addr} {l : List Int} {w : World} (h : Mine B A c l w) (n : Nat) : Mine B A c l (w.drewN n) := h
theorem Mine.read {B c : Nat} {A : Option Addr} {l : List Int} {w : World} (h : Mine B A c l w) : Has w w.heap.size A l := own_read h.1
theorem Mine.of {w w' : World} {c : Nat} {A : Option Addr} {l : List Int} (h : w'.ownsRow w.heap.size 3 1 (.slice A l.length c) l.length (ints l)) (hb : Below w.heap.size w w') : Mine w.heap.size A c l w' := ⟨h, hb.size⟩

/-- where a slice lies: its block, or none -/
def Lies (A : Option Addr) (lo hi : Nat) : Prop := ∀ a, A = some a → lo ≤ a.block ∧ a.block < hi
theorem Mine.lies {B c : Nat} {A : Option Addr} {l : List Int} {w : World} (h : Mine B A c l w) : Lies A B w.heap.size := fun a e => by
  subst e
  exact h.1.lt a.block rfl
theorem Mine.kept {B c lo hi : Nat} {A A' : Option Addr} {l : List Int} {w w' : World} {n' c' : Nat} (h : Mine B A c l w) (hg : w.grownBy w' (Value.slice A' n' c').ownBlock) (hl : Lies A' lo hi) (hB : hi ≤ B) : Mine B A c l w' := by
  refine ⟨h.1.kept hg ?_, Nat.le_trans h.2 hg.size⟩
  rcases A with _ | a
  · exact .inl rfl
  · refine .inr fun e => ?_
    rcases A' with _ | a'
    · cases e
    · have h1 := (h.lies a rfl).1
      have h2 := (hl a' rfl).2
      injection e with e
      omega
theorem Env.kept {w0 w w' : World} {A A' A1 : Option Addr} {f g : List Int} {gi n1 c1 lo hi : Nat} (h : Env w0 A A' f g gi w) (hf : Has w lo A f) (hg' : Has w lo A' g) (hi' : gi < lo) (h0 : w0.heap.size ≤ lo) (hg : w.grownBy w' (Value.slice A1 n1 c1).ownBlock) (hl : Lies A1 lo hi) (hlo : lo ≤ w.heap.size) :
    Env w0 A A' f g gi w' := by
  have hb : Below lo w w' := by
    refine (Below.refl lo w).grown hg hlo fun k hk => ?_
    rcases A1 with _ | a1
    · cases hk
    · injection hk with hk
      have := (hl a1 rfl).1
      omega
  refine ⟨(hf.below hb).mono (Nat.le_trans hlo hg.size), (hg'.below hb).mono (Nat.le_trans hlo hg.size), ?_, h.2.2.2.trans (hb.mono h0)⟩
  have hL := h.2.2.1
  refine ⟨hL.1, ?_⟩
  rcases hL.2 with h' | ⟨g', c', cur, hv, hB, hgg, hr⟩
  · exact .inl h'
  · refine .inr ⟨g', c', cur, hv, hB, (hb.block g' ?_).trans hgg, hr⟩
    injection hv with hv _ _
    injection hv with hv
    injection hv with hv
    omega

theorem over_any (B c : Nat) (A : Option Addr) (l : List Int) (w : World) (h : Mine B A c l w) (hl : l.length ≤ 300) :
    Calls Try.prog 30 #[.slice A l.length c] w fun e w' => e = .returned (.tuple #[]) ∧ w.grownBy w' (Value.slice A l.length c).ownBlock := by
  have ho := h.1
  rcases ho.2 with ⟨hv, h0⟩ | ⟨g, c', cur, hv, hB, hgg, hr⟩
  · injection hv with h1 h2 h3
    subst h1
    subst h3
    rw [h0]
    exact over_nil w
  · injection hv with h1 h2 h3
    subst h1
    subst h3
    exact over_own g l.length c B l w ho h.2 hl

set_option maxRecDepth 100000 in
set_option maxHeartbeats 1000000 in
theorem tells_big (A A' : Option Addr) (c c' : Nat) (n m : Nat) (x : Int) (w : World) (hn : n ≤ 4611686018427387904) (hm : m ≤ 4611686018427387904) (h : 300 < n ∨ 300 < m) (TB : Hid (Tab w)) :
    Calls Try.prog 3 #[.slice A n c, .slice A' m c', .int .i64 x] w fun e w' => e = .returned (.bool true) ∧ Below w.heap.size w w' := by
  by_cases h1 : 300 < n
  · clear h
    go_enter Try.func3, Try.ntmps3
    go_wp2_with (go_at_call 11; refine (awake_any _).mono ?_; rintro e w' ⟨rfl, hb⟩)
    go_ret
    exact ⟨rfl, hb⟩
  · have h2 : 300 < m := by omega
    clear h
    go_enter Try.func3, Try.ntmps3
    go_wp2_with (go_at_call 11; refine (awake_any _).mono ?_; rintro e w' ⟨rfl, hb⟩)
    go_ret
    exact ⟨rfl, hb⟩

set_option maxRecDepth 100000 in
set_option maxHeartbeats 8000000 in
theorem tells_small (A A' : Option Addr) (c c' : Nat) (f g : List Int) (x : Int) (w : World) (hf : Has w w.heap.size A f) (hg : Has w w.heap.size A' g) (hA : A = none → f.length = 0 ∧ c = 0) (h1 : f.length ≤ 300) (h2 : g.length ≤ 300) (TB : Hid (Tab w)) :
    Calls Try.prog 3 #[.slice A f.length c, .slice A' g.length c', .int .i64 x] w fun e w' => e = .returned (.bool true) ∧ Below w.heap.size w w' := by
  have HF := Lib.hid hf
  have HG := Lib.hid hg
  have HA := Lib.hid hA
  clear hf hg hA
  go_enter Try.func3, Try.ntmps3
  go_wp2_with fail
  refine (lend_any A c f w HF.out HA.out h1).mono ?_
  rintro e w1 ⟨gi, rfl, hL, hb⟩
  have E1 : Hid (Env w A A' f g gi w1) := ⟨has_next HF.out hb, has_next HG.out hb, hL, hb⟩
  have Hgi : Hid (gi < w1.heap.size) := (lent_block hL).2
  clear hL hb
  go_wp2_with fail
  refine (pAdd_res (some ⟨gi, 0, none⟩) A' (f.length + 3) c' f g w1 (lent_has E1.out.2.2.1) E1.out.2.1 h1 h2).mono ?_
  rintro e w2 ⟨Aa, ca, rfl, ho, hb⟩
  have E2 := Lib.hid (E1.out.next hb)
  have Ma2 := Lib.hid (Mine.of ho hb)
  have S2 : Hid (w1.heap.size ≤ w2.heap.size) := hb.size
  have La := Lib.hid Ma2.out.lies
  clear ho hb
  go_wp2_with fail
  refine (pSub_res (some ⟨gi, 0, none⟩) A' (f.length + 3) c' f g w2 (lent_has E2.out.2.2.1) E2.out.2.1 h1 h2).mono ?_
  rintro e w3 ⟨Ab, cb, rfl, ho, hb⟩
  have E3 := Lib.hid (E2.out.next hb)
  have Ma3 := Lib.hid (Ma2.out.next hb)
  have Mb3 := Lib.hid (Mine.of ho hb)
  have S3 : Hid (w2.heap.size ≤ w3.heap.size) := hb.size
  have Lb := Lib.hid Mb3.out.lies
  clear ho hb
  clear E2 Ma2
  go_wp2_with fail
  refine (pOver_res (some ⟨gi, 0, none⟩) (f.length + 3) f w3 (lent_has E3.out.2.2.1) h1 (tab_b TB (Lib.hid E3.out.2.2.2))).mono ?_
  rintro e w4 ⟨Ac, cc, rfl, ho, hb⟩
  have E4 := Lib.hid (E3.out.next hb)
  have Ma4 := Lib.hid (Ma3.out.next hb)
  have Mb4 := Lib.hid (Mb3.out.next hb)
  have Mc4 := Lib.hid (Mine.of ho hb)
  have S4 : Hid (w3.heap.size ≤ w4.heap.size) := hb.size
  have Lc := Lib.hid Mc4.out.lies
  clear ho hb
  clear E3 Ma3 Mb3
  go_wp2_with fail
  refine (pBack_res (some ⟨gi, 0, none⟩) (f.length + 3) f w4 (lent_has E4.out.2.2.1) h1 (tab_b TB (Lib.hid E4.out.2.2.2))).mono ?_
  rintro e w5 ⟨Ad, cd, rfl, ho, hb⟩
  have E5 := Lib.hid (E4.out.next hb)
  have Ma5 := Lib.hid (Ma4.out.next hb)
  have Mb5 := Lib.hid (Mb4.out.next hb)
  have Mc5 := Lib.hid (Mc4.out.next hb)
  have Md5 := Lib.hid (Mine.of ho hb)
  have S5 : Hid (w4.heap.size ≤ w5.heap.size) := hb.size
  have Ld := Lib.hid Md5.out.lies
  clear ho hb
  clear E4 Ma4 Mb4 Mc4
  go_wp2_with fail
  refine (pTimes_res (some ⟨gi, 0, none⟩) A' (f.length + 3) c' f g w5 (lent_has E5.out.2.2.1) E5.out.2.1 h1 h2).mono ?_
  rintro e w6 ⟨Ae, ce, rfl, ho, hb⟩
  have E6 := Lib.hid (E5.out.next hb)
  have Ma6 := Lib.hid (Ma5.out.next hb)
  have Mb6 := Lib.hid (Mb5.out.next hb)
  have Mc6 := Lib.hid (Mc5.out.next hb)
  have Md6 := Lib.hid (Md5.out.next hb)
  have Me6 := Lib.hid (Mine.of ho hb)
  have S6 : Hid (w5.heap.size ≤ w6.heap.size) := hb.size
  have Le := Lib.hid Me6.out.lies
  clear ho hb
  clear E5 Ma5 Mb5 Mc5 Md5
  go_wp2_with fail
  refine (refAdd_res A A' c c' f g w6 E6.out.1 E6.out.2.1 h1 h2).mono ?_
  rintro e w7 ⟨Ar, cr, rfl, ho, hb⟩
  have E7 := Lib.hid (E6.out.next hb)
  have Ma7 := Lib.hid (Ma6.out.next hb)
  have Mb7 := Lib.hid (Mb6.out.next hb)
  have Mc7 := Lib.hid (Mc6.out.next hb)
  have Md7 := Lib.hid (Md6.out.next hb)
  have Me7 := Lib.hid (Me6.out.next hb)
  have Mr7 := Lib.hid (Mine.of ho hb)
  have S7 : Hid (w6.heap.size ≤ w7.heap.size) := hb.size
  clear ho hb
  clear E6 Ma6 Mb6 Mc6 Md6 Me6
  go_wp2_with fail
  refine (same_true _ _ _ _ w7.heap.size (two vAdd f g) w7 (by have := two_len vAdd f g; omega) Ma7.out.read Mr7.out.read).mono ?_
  rintro e w8' ⟨rfl, n8, rfl⟩
  obtain ⟨w8, hw8⟩ : ∃ v, w7.drewN n8 = v := ⟨_, rfl⟩
  rw [hw8]
  have E8 : Hid (Env w A A' f g gi w8) := by rw [← hw8]; exact E7.out.drewN _
  have S8 : Hid (w7.heap.size ≤ w8.heap.size) := by rw [← hw8]; exact Nat.le_refl _
  have Ma8 := Lib.hid (Ma7.out.drewN n8)
  rw [hw8] at Ma8
  have Mb8 := Lib.hid (Mb7.out.drewN n8)
  rw [hw8] at Mb8
  have Mc8 := Lib.hid (Mc7.out.drewN n8)
  rw [hw8] at Mc8
  have Md8 := Lib.hid (Md7.out.drewN n8)
  rw [hw8] at Md8
  have Me8 := Lib.hid (Me7.out.drewN n8)
  rw [hw8] at Me8
  clear hw8 E7 Ma7 Mb7 Mc7 Md7 Me7 Mr7
  go_wp2_with fail
  refine (refSub_res A A' c c' f g w8 E8.out.1 E8.out.2.1 h1 h2).mono ?_
  rintro e w9 ⟨Ar, cr, rfl, ho, hb⟩
  have E9 := Lib.hid (E8.out.next hb)
  have Ma9 := Lib.hid (Ma8.out.next hb)
  have Mb9 := Lib.hid (Mb8.out.next hb)
  have Mc9 := Lib.hid (Mc8.out.next hb)
  have Md9 := Lib.hid (Md8.out.next hb)
  have Me9 := Lib.hid (Me8.out.next hb)
  have Mr9 := Lib.hid (Mine.of ho hb)
  have S9 : Hid (w8.heap.size ≤ w9.heap.size) := hb.size
  clear ho hb
  clear E8 Ma8 Mb8 Mc8 Md8 Me8
  go_wp2_with fail
  refine (same_true _ _ _ _ w9.heap.size (two vSub f g) w9 (by have := two_len vSub f g; omega) Mb9.out.read Mr9.out.read).mono ?_
  rintro e w10' ⟨rfl, n10, rfl⟩
  obtain ⟨w10, hw10⟩ : ∃ v, w9.drewN n10 = v := ⟨_, rfl⟩
  rw [hw10]
  have E10 : Hid (Env w A A' f g gi w10) := by rw [← hw10]; exact E9.out.drewN _
  have S10 : Hid (w9.heap.size ≤ w10.heap.size) := by rw [← hw10]; exact Nat.le_refl _
  have Ma10 := Lib.hid (Ma9.out.drewN n10)
  rw [hw10] at Ma10
  have Mc10 := Lib.hid (Mc9.out.drewN n10)
  rw [hw10] at Mc10
  have Md10 := Lib.hid (Md9.out.drewN n10)
  rw [hw10] at Md10
  have Me10 := Lib.hid (Me9.out.drewN n10)
  rw [hw10] at Me10
  clear hw10 E9 Ma9 Mb9 Mc9 Md9 Me9 Mr9
  go_wp2_with fail
  refine (refOver_res A c f w10 E10.out.1 h1).mono ?_
  rintro e w11 ⟨Ar, cr, rfl, ho, hb⟩
  have E11 := Lib.hid (E10.out.next hb)
  have Ma11 := Lib.hid (Ma10.out.next hb)
  have Mc11 := Lib.hid (Mc10.out.next hb)
  have Md11 := Lib.hid (Md10.out.next hb)
  have Me11 := Lib.hid (Me10.out.next hb)
  have Mr11 := Lib.hid (Mine.of ho hb)
  have S11 : Hid (w10.heap.size ≤ w11.heap.size) := hb.size
  clear ho hb
  clear E10 Ma10 Mc10 Md10 Me10
  go_wp2_with fail
  refine (same_true _ _ _ _ w11.heap.size (one vOver f) w11 (by have := one_len vOver f; omega) Mc11.out.read Mr11.out.read).mono ?_
  rintro e w12' ⟨rfl, n12, rfl⟩
  obtain ⟨w12, hw12⟩ : ∃ v, w11.drewN n12 = v := ⟨_, rfl⟩
  rw [hw12]
  have E12 : Hid (Env w A A' f g gi w12) := by rw [← hw12]; exact E11.out.drewN _
  have S12 : Hid (w11.heap.size ≤ w12.heap.size) := by rw [← hw12]; exact Nat.le_refl _
  have Ma12 := Lib.hid (Ma11.out.drewN n12)
  rw [hw12] at Ma12
  have Mc12 := Lib.hid (Mc11.out.drewN n12)
  rw [hw12] at Mc12
  have Md12 := Lib.hid (Md11.out.drewN n12)
  rw [hw12] at Md12
  have Me12 := Lib.hid (Me11.out.drewN n12)
  rw [hw12] at Me12
  clear hw12 E11 Ma11 Mc11 Md11 Me11 Mr11
  go_wp2_with fail
  refine (refBack_res A c f w12 E12.out.1 h1).mono ?_
  rintro e w13 ⟨Ar, cr, rfl, ho, hb⟩
  have E13 := Lib.hid (E12.out.next hb)
  have Ma13 := Lib.hid (Ma12.out.next hb)
  have Mc13 := Lib.hid (Mc12.out.next hb)
  have Md13 := Lib.hid (Md12.out.next hb)
  have Me13 := Lib.hid (Me12.out.next hb)
  have Mr13 := Lib.hid (Mine.of ho hb)
  have S13 : Hid (w12.heap.size ≤ w13.heap.size) := hb.size
  clear ho hb
  clear E12 Ma12 Mc12 Md12 Me12
  go_wp2_with fail
  refine (same_true _ _ _ _ w13.heap.size (one vBack f) w13 (by have := one_len vBack f; omega) Md13.out.read Mr13.out.read).mono ?_
  rintro e w14' ⟨rfl, n14, rfl⟩
  obtain ⟨w14, hw14⟩ : ∃ v, w13.drewN n14 = v := ⟨_, rfl⟩
  rw [hw14]
  have E14 : Hid (Env w A A' f g gi w14) := by rw [← hw14]; exact E13.out.drewN _
  have S14 : Hid (w13.heap.size ≤ w14.heap.size) := by rw [← hw14]; exact Nat.le_refl _
  have Ma14 := Lib.hid (Ma13.out.drewN n14)
  rw [hw14] at Ma14
  have Mc14 := Lib.hid (Mc13.out.drewN n14)
  rw [hw14] at Mc14
  have Me14 := Lib.hid (Me13.out.drewN n14)
  rw [hw14] at Me14
  clear hw14 E13 Ma13 Mc13 Md13 Me13 Mr13
  go_wp2_with fail
  refine (refTimes_res A A' c c' f g w14 E14.out.1 E14.out.2.1 h1 h2).mono ?_
  rintro e w15 ⟨Ar, cr, rfl, ho, hb⟩
  have E15 := Lib.hid (E14.out.next hb)
  have Ma15 := Lib.hid (Ma14.out.next hb)
  have Mc15 := Lib.hid (Mc14.out.next hb)
  have Me15 := Lib.hid (Me14.out.next hb)
  have Mr15 := Lib.hid (Mine.of ho hb)
  have S15 : Hid (w14.heap.size ≤ w15.heap.size) := hb.size
  clear ho hb
  clear E14 Ma14 Mc14 Me14
  go_wp2_with fail
  refine (same_true _ _ _ _ w15.heap.size (two vTimes f g) w15 (by have := two_len vTimes f g; omega) Me15.out.read Mr15.out.read).mono ?_
  rintro e w16' ⟨rfl, n16, rfl⟩
  obtain ⟨w16, hw16⟩ : ∃ v, w15.drewN n16 = v := ⟨_, rfl⟩
  rw [hw16]
  have E16 : Hid (Env w A A' f g gi w16) := by rw [← hw16]; exact E15.out.drewN _
  have S16 : Hid (w15.heap.size ≤ w16.heap.size) := by rw [← hw16]; exact Nat.le_refl _
  have Ma16 := Lib.hid (Ma15.out.drewN n16)
  rw [hw16] at Ma16
  have Mc16 := Lib.hid (Mc15.out.drewN n16)
  rw [hw16] at Mc16
  clear hw16 E15 Ma15 Mc15 Me15 Mr15
  go_wp2_with fail
  refine (pMay_any (some ⟨gi, 0, none⟩) (f.length + 3) f w16 (lent_has E16.out.2.2.1) h1).mono ?_
  rintro e w17' ⟨rfl, n17, rfl⟩
  obtain ⟨w17, hw17⟩ : ∃ v, w16.drewN n17 = v := ⟨_, rfl⟩
  rw [hw17]
  have E17 : Hid (Env w A A' f g gi w17) := by rw [← hw17]; exact E16.out.drewN _
  have S17 : Hid (w16.heap.size ≤ w17.heap.size) := by rw [← hw17]; exact Nat.le_refl _
  have Ma17 := Lib.hid (Ma16.out.drewN n17)
  rw [hw17] at Ma17
  have Mc17 := Lib.hid (Mc16.out.drewN n17)
  rw [hw17] at Mc17
  clear hw17 E16 Ma16 Mc16
  go_wp2_with fail
  refine (refMay_any A c f w17 E17.out.1 h1).mono ?_
  rintro e w18' ⟨rfl, n18, rfl⟩
  obtain ⟨w18, hw18⟩ : ∃ v, w17.drewN n18 = v := ⟨_, rfl⟩
  rw [hw18]
  have E18 : Hid (Env w A A' f g gi w18) := by rw [← hw18]; exact E17.out.drewN _
  have S18 : Hid (w17.heap.size ≤ w18.heap.size) := by rw [← hw18]; exact Nat.le_refl _
  have Ma18 := Lib.hid (Ma17.out.drewN n18)
  rw [hw18] at Ma18
  have Mc18 := Lib.hid (Mc17.out.drewN n18)
  rw [hw18] at Mc18
  clear hw18 E17 Ma17 Mc17
  go_wp2_with fail
  refine (pRoot_any x w18 (tab_b TB (Lib.hid E18.out.2.2.2))).mono ?_
  rintro e w19' ⟨rfl, n19, rfl⟩
  obtain ⟨w19, hw19⟩ : ∃ v, w18.drewN n19 = v := ⟨_, rfl⟩
  rw [hw19]
  have E19 : Hid (Env w A A' f g gi w19) := by rw [← hw19]; exact E18.out.drewN _
  have S19 : Hid (w18.heap.size ≤ w19.heap.size) := by rw [← hw19]; exact Nat.le_refl _
  have Ma19 := Lib.hid (Ma18.out.drewN n19)
  rw [hw19] at Ma19
  have Mc19 := Lib.hid (Mc18.out.drewN n19)
  rw [hw19] at Mc19
  clear hw19 E18 Ma18 Mc18
  go_wp2_with fail
  refine (refRoot_any x w19).mono ?_
  rintro e w' ⟨rfl, rfl⟩
  go_wp2_with fail
  refine (pNorm_two (some ⟨gi, 0, none⟩) A' (f.length + 3) c' _ _ f g w19 rfl rfl (lent_has E19.out.2.2.1) E19.out.2.1 h1 h2).mono ?_
  rintro e w20 ⟨rfl, hb⟩
  have E20 := Lib.hid (E19.out.next hb)
  have S20 : Hid (w19.heap.size ≤ w20.heap.size) := hb.size
  have Ma20 := Lib.hid (Ma19.out.next hb)
  have Mc20 := Lib.hid (Mc19.out.next hb)
  clear hb
  clear E19 Ma19 Mc19
  go_wp2_with fail
  refine (refNorm_two A A' c c' _ _ f g w20 rfl rfl E20.out.1 E20.out.2.1 h1 h2).mono ?_
  rintro e w21 ⟨rfl, hb⟩
  have E21 := Lib.hid (E20.out.next hb)
  have S21 : Hid (w20.heap.size ≤ w21.heap.size) := hb.size
  have Ma21 := Lib.hid (Ma20.out.next hb)
  have Mc21 := Lib.hid (Mc20.out.next hb)
  clear hb
  clear E20 Ma20 Mc20
  have T : Hid (w.heap.size ≤ w1.heap.size ∧ w1.heap.size ≤ w2.heap.size ∧ w2.heap.size ≤ w3.heap.size ∧ w3.heap.size ≤ w4.heap.size ∧ w4.heap.size ≤ w5.heap.size ∧ w5.heap.size ≤ w6.heap.size ∧ w6.heap.size ≤ w21.heap.size) :=
    ⟨E1.out.2.2.2.size, S2.out, S3.out, S4.out, S5.out, S6.out, by have a7 := S7.out; have a8 := S8.out; have a9 := S9.out; have a10 := S10.out; have a11 := S11.out; have a12 := S12.out; have a13 := S13.out; have a14 := S14.out; have a15 := S15.out; have a16 := S16.out; have a17 := S17.out; have a18 := S18.out; have a19 := S19.out; have a20 := S20.out; have a21 := S21.out; omega⟩
  clear S2 S3 S4 S5 S6 S7 S8 S9 S10 S11 S12 S13 S14 S15 S16 S17 S18 S19 S20 S21
  go_wp2_with fail
  refine (over_any _ _ _ (two vAdd f g) w21 Ma21.out (by have := two_len vAdd f g; omega)).mono ?_
  rintro e w22 ⟨rfl, hgr⟩
  have E22 : Hid (Env w A A' f g gi w22) := by
    obtain ⟨t0, t1, t2, t3, t4, t5, t6⟩ := T.out
    have hb := E21.out.2.2.2
    exact E21.out.kept (lo := w1.heap.size) (hi := w2.heap.size) ((HF.out.below hb).mono t0) ((HG.out.below hb).mono t0) Hgi.out t0 hgr (fun a e => ⟨by have := (La.out a e).1; omega, (La.out a e).2⟩) (by omega)
  have T22 := Lib.hid T.out
  have T : Hid (w.heap.size ≤ w1.heap.size ∧ w1.heap.size ≤ w2.heap.size ∧ w2.heap.size ≤ w3.heap.size ∧ w3.heap.size ≤ w4.heap.size ∧ w4.heap.size ≤ w5.heap.size ∧ w5.heap.size ≤ w6.heap.size ∧ w6.heap.size ≤ w22.heap.size) := by
    obtain ⟨t0, t1, t2, t3, t4, t5, t6⟩ := T22.out
    have := hgr.size
    exact ⟨t0, t1, t2, t3, t4, t5, by omega⟩
  have Mc22 := Lib.hid (Mc21.out.kept hgr La.out (by obtain ⟨t0, t1, t2, t3, t4, t5, t6⟩ := T.out; omega))
  clear hgr T22 E21 Ma21 Mc21
  go_wp2_with fail
  refine (over_any _ _ _ (one vOver f) w22 Mc22.out (by have := one_len vOver f; omega)).mono ?_
  rintro e w23 ⟨rfl, hgr⟩
  have E23 : Hid (Env w A A' f g gi w23) := by
    obtain ⟨t0, t1, t2, t3, t4, t5, t6⟩ := T.out
    have hb := E22.out.2.2.2
    exact E22.out.kept (lo := w1.heap.size) (hi := w4.heap.size) ((HF.out.below hb).mono t0) ((HG.out.below hb).mono t0) Hgi.out t0 hgr (fun a e => ⟨by have := (Lc.out a e).1; omega, (Lc.out a e).2⟩) (by omega)
  have T23 := Lib.hid T.out
  have T : Hid (w.heap.size ≤ w1.heap.size ∧ w1.heap.size ≤ w2.heap.size ∧ w2.heap.size ≤ w3.heap.size ∧ w3.heap.size ≤ w4.heap.size ∧ w4.heap.size ≤ w5.heap.size ∧ w5.heap.size ≤ w6.heap.size ∧ w6.heap.size ≤ w23.heap.size) := by
    obtain ⟨t0, t1, t2, t3, t4, t5, t6⟩ := T23.out
    have := hgr.size
    exact ⟨t0, t1, t2, t3, t4, t5, by omega⟩
  clear hgr T23 E22 Mc22
  go_wp2_with fail
  refine (kept_any gi w.heap.size A c f w23 E23.out.2.2.1 E23.out.1 h1).mono ?_
  rintro e wz' ⟨rfl, nz, rfl⟩
  go_wp2_with fail
  refine (awake_any (w23.drewN nz) (tab_d TB (Lib.hid E23.out.2.2.2))).mono ?_
  rintro e wy ⟨rfl, hb⟩
  have BB := Lib.hid ((E23.out.drewN nz).2.2.2.trans (hb.mono (E23.out.drewN nz).2.2.2.size))
  clear hb
  go_wp2
  go_ret
  exact ⟨rfl, BB.out⟩
end Go.Proofs.Ytneopnlklhcopaa
