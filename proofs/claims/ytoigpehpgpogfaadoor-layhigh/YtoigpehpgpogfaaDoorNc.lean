/- Contracts: the program's poly within bounds as bytes, and back. -/
import Derived.Test.YtoigpehpgpogfaaDoorLg
import Derived.Test.YtoigpehpgpogfaaDoorNb
namespace Go.Proofs.YtoigpehpgpogfaaDoor
open Go.RowKit Slices Go.Proofs.YtoigpehpgpogfaaDoor.Bit

/-- the first k numbers are there, zeros behind -/
def fillTo (L : List Int) (k : Nat) : List Int := L.take k ++ List.replicate (L.length - k) 0
theorem fillTo_zero (L : List Int) : fillTo L 0 = List.replicate L.length 0 := by simp [fillTo]
theorem fillTo_all (L : List Int) : fillTo L L.length = L := by simp [fillTo]
theorem fillTo_len (L : List Int) (k : Nat) : (fillTo L k).length = L.length := by
  unfold fillTo; rw [List.length_append, List.length_take, List.length_replicate]; omega
theorem fillTo_next (L : List Int) {k : Nat} (h : k < L.length) : (fillTo L k).set k (L.getD k 0) = fillTo L (k + 1) := by
  unfold fillTo
  have e : L.length - k = (L.length - (k + 1)) + 1 := by omega
  rw [List.set_append_right _ _ (by rw [List.length_take]; omega), List.length_take, Nat.min_eq_left (by omega), Nat.sub_self, e, List.replicate_succ, List.set_cons_zero, List.take_succ_eq_append_getElem h, List.getD_eq_getElem?_getD, List.getElem?_eq_getElem h, List.append_assoc]
  rfl

theorem less_is {b x : Int} (hb : 0 ≤ b) (hb1 : b ≤ 1048576) (hx : okN x) : rOf (b - x) = b - about b x := by
  unfold rOf about okN at *
  split <;> omega
theorem farL_less {b : Int} {f : List Int} (hb : 0 ≤ b) (hb1 : b ≤ 1048576) (hf : IsPoly f) : farL b f = lessL b f := by
  unfold farL lessL
  apply List.map_congr_left
  intro x hx
  obtain ⟨k, hk, rfl⟩ := List.mem_iff_getElem.1 hx
  have := hf.2 k (by rw [← hf.1]; exact hk)
  rw [List.getD_eq_getElem?_getD, List.getElem?_eq_getElem hk] at this
  exact less_is hb hb1 this

/-- the row of what is below b, the first k laid -/
def UnderRow (w : World) (L : List Int) (g n k : Nat) (wr : World) : Prop :=
  wr.ownsRow w.heap.size 3 1 (.slice (some ⟨g, 0, none⟩) n n) n (ints .i64 (fillTo L k)) ∧ Below w.heap.size w wr

set_option maxRecDepth 100000 in
set_option maxHeartbeats 1000000 in
theorem below_any (b : Int) (A : Option Addr) (c n : Nat) (f : List Int) (w : World) (hn : n = f.length) (h : Has .i64 w w.heap.size A f) (hl : f.length ≤ 4000) (h0 : 0 < f.length) (b0 : 0 ≤ b) (b1 : b ≤ 1048576) (hf : ∀ k, k < f.length → 0 ≤ f.getD k 0 ∧ f.getD k 0 ≤ 16777215) :
    Calls Tryd.prog 39 #[.int .i64 b, .slice A n c] w (Res .i64 3 w (farL b f)) := by
  subst hn
  obtain ⟨Z, z1, s1, m1⟩ := make_ints f.length hl
  have HL : Hid ((farL b f).length = f.length) := farL_len b f
  have HS : Hid (UnderRow w (farL b f) w.heap.size f.length 0 (w.alloc (.cells Z 3))) := by
    refine ⟨?_, (Below.refl _ _).alloc (Nat.le_refl _) _⟩
    rw [fillTo_zero, HL.out]
    exact zero_own z1 s1 hl h0 (Nat.le_refl _)
  have H := Lib.hid h
  have HF := Lib.hid hf
  clear h hf z1 s1
  go_enter Tryd.func39, Tryd.ntmps39
  go_wp2
  go_loopw [6, 7, 13] (fun _ _ i wr => ∃ k : Nat, k ≤ f.length ∧ i = .int .i64 k ∧ UnderRow w (farL b f) w.heap.size f.length k wr) (fun _ _ i _ => f.length - (intOf i).toNat)
  case atStart => exact ⟨0, by omega, rfl, HS.out⟩
  case round =>
    obtain ⟨k, hk, rfl, hrow⟩ := hrel
    have HR := Lib.hid hrow
    clear hrow HS
    by_cases hlt : k < f.length
    · obtain ⟨ad, rfl, hab, hac⟩ := (H.out.below HR.out.2) k hlt
      obtain ⟨x0, x1⟩ := HF.out k hlt
      obtain ⟨v0, hv0⟩ := own_spare HR.out.1 (k := k) hlt
      have fX := HR.out.1.frozenAt k
      have hnx : UnderRow w (farL b f) w.heap.size f.length (k + 1) (wr.setCell ⟨w.heap.size, k, none⟩ (.int .i64 (rOf (b - f.getD k 0)))) := by
        refine ⟨?_, HR.out.2.setCell (own_block HR.out.1).1 _⟩
        rw [← fillTo_next (farL b f) (by rw [HL.out]; exact hlt), farL_at b f hlt]
        exact own_set HR.out.1 k _
      have HNX := Lib.hid hnx
      clear hnx
      generalize f.getD k 0 = X at hac x0 x1 HNX
      go_wp2_with (go_at_call 60; refine (of_any _ _).mono ?_; rintro e w' ⟨rfl, rfl⟩)
      go_roundw
      case rel => exact ⟨k + 1, by omega, by go_num, HNX.out⟩
      case measure => simp [intOf]; omega
    · have e : k = f.length := by omega
      subst e
      go_wp2
      go_ret
      have hr := HR.out
      unfold UnderRow at hr
      have e2 : fillTo (farL b f) f.length = farL b f := by rw [← HL.out]; exact fillTo_all _
      rw [e2] at hr
      exact res_of hr.1 hr.2

theorem add_zero0 (a : Addr) : a.add 0 = a := by
  obtain ⟨b, o, s⟩ := a
  unfold Addr.add
  split <;> simp_all
/-- the greatest of the first k, the first among them -/
def maxTo (l : List Int) : Nat → Int
  | 0 => l.getD 0 0
  | k + 1 => max (maxTo l k) (l.getD k 0)
def minTo (l : List Int) : Nat → Int
  | 0 => l.getD 0 0
  | k + 1 => min (minTo l k) (l.getD k 0)
theorem max_one (l : List Int) : maxTo l 1 = l.getD 0 0 := by show max _ _ = _; exact Int.max_self _
theorem min_one (l : List Int) : minTo l 1 = l.getD 0 0 := by show min _ _ = _; exact Int.min_self _
theorem max_le {l : List Int} {m : Int} (h0 : l.getD 0 0 ≤ m) : ∀ k, (∀ j, j < k → l.getD j 0 ≤ m) → maxTo l k ≤ m := by
  intro k
  induction k with
  | zero => intro _; exact h0
  | succ k ih =>
    intro h
    have := ih fun j hj => h j (by omega)
    have := h k (by omega)
    show max _ _ ≤ m
    omega
theorem le_max {l : List Int} : ∀ k j, j < k → l.getD j 0 ≤ maxTo l k := by
  intro k
  induction k with
  | zero => intro j h; omega
  | succ k ih =>
    intro j h
    show _ ≤ max _ _
    by_cases e : j = k
    · subst e; omega
    · have := ih j (by omega); omega
theorem le_min {l : List Int} {m : Int} (h0 : m ≤ l.getD 0 0) : ∀ k, (∀ j, j < k → m ≤ l.getD j 0) → m ≤ minTo l k := by
  intro k
  induction k with
  | zero => intro _; exact h0
  | succ k ih =>
    intro h
    have := ih fun j hj => h j (by omega)
    have := h k (by omega)
    show m ≤ min _ _
    omega
theorem min_le {l : List Int} : ∀ k j, j < k → minTo l k ≤ l.getD j 0 := by
  intro k
  induction k with
  | zero => intro j h; omega
  | succ k ih =>
    intro j h
    show min _ _ ≤ _
    by_cases e : j = k
    · subst e; omega
    · have := ih j (by omega); omega

set_option maxRecDepth 100000 in
set_option maxHeartbeats 1000000 in
theorem max_any (A : Option Addr) (c n B : Nat) (l : List Int) (w : World) (hn : n = l.length) (h : Has .i64 w B A l) (h0 : 0 < l.length) (hl : l.length ≤ 4000) :
    Calls Tryd.prog 40 #[.slice A n c] w fun e w' => e = .returned (.int .i64 (maxTo l l.length)) ∧ w = w' := by
  subst hn
  obtain ⟨a, rfl, _, ha⟩ := h 0 h0
  have ha0 : w.cell? a = some (.int .i64 (l.getD 0 0)) := by rw [← add_zero0 a]; exact ha
  have H := Lib.hid h
  have HM : Hid (maxTo l 1 = l.getD 0 0) := max_one l
  clear h
  go_enter Tryd.func40, Tryd.ntmps40
  go_wp2
  go_loop [3, 4] (fun m i => ∃ k : Nat, 1 ≤ k ∧ k ≤ l.length ∧ i = .int .i64 k ∧ m = .int .i64 (maxTo l k)) (fun _ i => l.length - (intOf i).toNat)
  case atStart => exact ⟨1, by omega, by omega, rfl, by rw [HM.out]; simp [List.getD_eq_getElem?_getD, h0]⟩
  case round =>
    obtain ⟨k, hk1, hk, rfl, rfl⟩ := hrel
    by_cases hlt : k < l.length
    · obtain ⟨a', e', _, hc⟩ := H.out k hlt
      injection e' with e'
      subst e'
      have hmx : maxTo l (k + 1) = max (maxTo l k) (l.getD k 0) := rfl
      have HX := Lib.hid hmx
      clear hmx
      generalize l.getD k 0 = x at hc HX
      generalize maxTo l k = m at HX
      by_cases hg : m < x
      · go_wp2
        go_round
        case rel => exact ⟨k + 1, by omega, by omega, by go_num, by rw [HX.out]; congr 1; omega⟩
        case measure => simp [intOf]; omega
      · go_wp2
        go_round
        case rel => exact ⟨k + 1, by omega, by omega, by go_num, by rw [HX.out]; congr 1; omega⟩
        case measure => simp [intOf]; omega
    · have e : k = l.length := by omega
      subst e
      go_wp2
      go_ret
      exact ⟨rfl, rfl⟩
set_option maxRecDepth 100000 in
set_option maxHeartbeats 1000000 in
theorem min_any (A : Option Addr) (c n B : Nat) (l : List Int) (w : World) (hn : n = l.length) (h : Has .i64 w B A l) (h0 : 0 < l.length) (hl : l.length ≤ 4000) :
    Calls Tryd.prog 81 #[.slice A n c] w fun e w' => e = .returned (.int .i64 (minTo l l.length)) ∧ w = w' := by
  subst hn
  obtain ⟨a, rfl, _, ha⟩ := h 0 h0
  have ha0 : w.cell? a = some (.int .i64 (l.getD 0 0)) := by rw [← add_zero0 a]; exact ha
  have H := Lib.hid h
  have HM : Hid (minTo l 1 = l.getD 0 0) := min_one l
  clear h
  go_enter Tryd.func81, Tryd.ntmps81
  go_wp2
  go_loop [3, 4] (fun m i => ∃ k : Nat, 1 ≤ k ∧ k ≤ l.length ∧ i = .int .i64 k ∧ m = .int .i64 (minTo l k)) (fun _ i => l.length - (intOf i).toNat)
  case atStart => exact ⟨1, by omega, by omega, rfl, by rw [HM.out]; simp [List.getD_eq_getElem?_getD, h0]⟩
  case round =>
    obtain ⟨k, hk1, hk, rfl, rfl⟩ := hrel
    by_cases hlt : k < l.length
    · obtain ⟨a', e', _, hc⟩ := H.out k hlt
      injection e' with e'
      subst e'
      have hmx : minTo l (k + 1) = min (minTo l k) (l.getD k 0) := rfl
      have HX := Lib.hid hmx
      clear hmx
      generalize l.getD k 0 = x at hc HX
      generalize minTo l k = m at HX
      by_cases hg : x < m
      · go_wp2
        go_round
        case rel => exact ⟨k + 1, by omega, by omega, by go_num, by rw [HX.out]; congr 1; omega⟩
        case measure => simp [intOf]; omega
      · go_wp2
        go_round
        case rel => exact ⟨k + 1, by omega, by omega, by go_num, by rw [HX.out]; congr 1; omega⟩
        case measure => simp [intOf]; omega
    · have e : k = l.length := by omega
      subst e
      go_wp2
      go_ret
      exact ⟨rfl, rfl⟩
end Go.Proofs.YtoigpehpgpogfaaDoor
