/- Contracts: the program's laying functions as the laws call them. -/
import Derived.Test.YtmegjjfgiibobaaDoorCn
namespace Go.Proofs.YtmegjjfgiibobaaDoor
open Go.RowKit Slices Go.Proofs.YtmegjjfgiibobaaDoor.Bit

def pv (p : Piece) : Value := .slice p.A p.l.length p.c
theorem pieces_has (w : World) (ps : List Piece) (cs : Array Value) (hcs : cs = (ps.map pv).toArray) (h : ∀ p ∈ ps, Has .u8 w w.heap.size p.A p.l ∧ (p.A = none → p.l.length = 0 ∧ p.c = 0)) :
    HasP (w.alloc (.cells cs 22)) (w.alloc (.cells cs 22)).heap.size (some ⟨w.heap.size, 0, none⟩) ps := fun k hk => by
  subst hcs
  have e : (⟨w.heap.size, 0, none⟩ : Addr).add k = ⟨w.heap.size, k, none⟩ := by unfold Addr.add; split <;> simp_all
  have h' := h ps[k] (List.getElem_mem _)
  refine ⟨⟨_, rfl, by simp, ?_⟩, has_next h'.1 ((Below.refl _ _).alloc (Nat.le_refl _) _), h'.2⟩
  rw [e, cell_of_row _ _ k _ _ _ (heap_alloc_new w (.cells (ps.map pv).toArray 22))]
  simp only [List.getElem?_toArray, List.getElem?_map, List.getElem?_eq_getElem hk]
  rfl
/-- what some slices read as -/
def Reads (rs : List (Option Addr × List Int)) (w : World) : Prop := ∀ r ∈ rs, Has .u8 w w.heap.size r.1 r.2
theorem Reads.next {rs : List (Option Addr × List Int)} {w w' : World} (h : Reads rs w) (hb : Below w.heap.size w w') : Reads rs w' := fun r hr => has_next (h r hr) hb
theorem Reads.push {rs : List (Option Addr × List Int)} {w : World} {A : Option Addr} {l : List Int} (h : Reads rs w) (h' : Has .u8 w w.heap.size A l) : Reads ((A, l) :: rs) w := fun r hr => by
  rcases List.mem_cons.1 hr with rfl | hr
  · exact h'
  · exact h r hr
theorem parts_two (A1 A2 : Option Addr) (c1 c2 : Nat) (p q : List Int) : partsB (bytesOf [⟨A1, c1, p⟩, ⟨A2, c2, q⟩]) = be8 p.length ++ p ++ (be8 q.length ++ q) := by
  show be8 p.length ++ p ++ (be8 q.length ++ q ++ []) = _
  rw [List.append_nil]
theorem parts_one (A1 : Option Addr) (c1 : Nat) (p : List Int) : partsB (bytesOf [⟨A1, c1, p⟩]) = be8 p.length ++ p := by
  show be8 p.length ++ p ++ [] = _
  rw [List.append_nil]
/-- unlike parts are laid unlike -/
theorem parts_swap (p q : List Int) (hp : p.length ≤ 4000) (hq : q.length ≤ 4000) : (be8 p.length ++ p ++ (be8 q.length ++ q) = be8 q.length ++ q ++ (be8 p.length ++ p)) ↔ p = q := by
  constructor
  · intro h
    simp only [List.append_assoc] at h
    obtain ⟨h1, h2⟩ := List.append_inj h (by rw [be8_len, be8_len])
    have e := be8_inj (by omega) (by omega) h1
    exact (List.append_inj h2 (by omega)).1
  · rintro rfl; rfl
theorem strNums_of {l : List Int} (h : Fit 8 l) : strNums (strOfNums l) = l := by
  unfold strNums strOfNums
  apply List.ext_getElem (by simp)
  intro i h1 h2
  have f := h i h2
  rw [List.getD_eq_getElem?_getD, List.getElem?_eq_getElem h2] at f
  simp only [Option.getD_some] at f
  simp only [List.getElem_map]
  have e2 : (2 : Int) ^ 8 = 256 := by decide
  simp [UInt8.toNat_ofNat']
  omega
theorem strOf_size (l : List Int) : (strOfNums l).size = l.length := by
  unfold strOfNums
  show (Array.size _) = _
  simp

/-- bytes that a call made: as many as m, L -/
def Out (w : World) (m : Nat) (L : List Int) (e : Ending) (w' : World) : Prop :=
  ∃ A' c', e = .returned (.slice A' m c') ∧ w'.ownsRow w.heap.size 5 1 (.slice A' m c') m (ints .u8 L) ∧ Below w.heap.size w w'
theorem out_of {w w1 : World} {m : Nat} {L : List Int} {e : Ending} {w' : World} (hb0 : Below w.heap.size w w1) (hm : m = L.length) (h : Res .u8 5 w1 L e w') : Out w m L e w' := by
  subst hm
  obtain ⟨A, c, he, ho, hb⟩ := h
  exact ⟨A, c, he, own_down ho hb0.size, below_next hb0 hb⟩
theorem below_new (w : World) (o : Obj) : Below w.heap.size w (w.alloc o) := (Below.refl _ _).alloc (Nat.le_refl _) _
def twoL (p q : List Int) : List Int := be8 p.length ++ p ++ (be8 q.length ++ q)
def oneL (p : List Int) : List Int := be8 p.length ++ p
theorem oneL_len (p : List Int) : (oneL p).length = p.length + 8 := by unfold oneL; rw [List.length_append, be8_len]; omega
theorem twoL_len (p q : List Int) : (twoL p q).length = p.length + q.length + 16 := by unfold twoL; simp only [List.length_append, be8_len]; omega
theorem twoL_one (p q : List Int) : twoL p q = oneL p ++ oneL q := rfl
theorem bytes_two {pr : Nat → Nat → Nat → List Int → Bool → World → Prop} (P : CodeOk pr) {A A2 A3 : Option Addr} {n c n2 c2 n3 c3 : Nat} {b p q : List Int} {w : World} (h1 : Base w A n c b) (h2 : Base w A2 n2 c2 p) (h3 : Base w A3 n3 c3 q) (l2 : n2 ≤ 4000) (l3 : n3 ≤ 4000) :
    Calls Tryd.prog 11 #[.slice A n c, .slice (some ⟨w.heap.size, 0, none⟩) 2 2] (w.alloc (.cells #[.slice A2 n2 c2, .slice A3 n3 c3] 22)) (Out w (n + n2 + n3 + 16) (b ++ twoL p q)) := by
  have e1 := h1.1
  have e2 := h2.1
  have e3 := h3.1
  refine (P.bytes A (some ⟨w.heap.size, 0, none⟩) n c 2 2 b [⟨A2, c2, p⟩, ⟨A3, c3, q⟩] (w.alloc (.cells #[.slice A2 n2 c2, .slice A3 n3 c3] 22)) (h1.next (below_new _ _)) rfl (pieces_has w _ _ (by rw [e2, e3]; rfl) (fun r hr => by
    rcases List.mem_cons.1 hr with rfl | hr
    · exact ⟨h2.2.1, by rw [← e2]; exact h2.2.2.1⟩
    · obtain rfl := List.mem_singleton.1 hr
      exact ⟨h3.2.1, by rw [← e3]; exact h3.2.2.1⟩)) (fun h => by cases h) (by omega) (by omega) (fun k hk => by
    have hk2 : k < 2 := hk
    rcases (show k = 0 ∨ k = 1 by omega) with rfl | rfl
    · show p.length ≤ 4000; omega
    · show q.length ≤ 4000; omega) (fun k hk => by
    have hk2 : k < 2 := hk
    rcases (show k = 0 ∨ k = 1 by omega) with rfl | rfl
    · show p.length ≤ c2; rw [← e2]; exact h2.2.2.2.1
    · show q.length ≤ c3; rw [← e3]; exact h3.2.2.2.1)).mono fun e w' h => ?_
  rw [parts_two] at h
  exact out_of (below_new _ _) (by rw [List.length_append]; show _ = b.length + (twoL p q).length; rw [twoL_len]; omega) h
theorem bytes_one {pr : Nat → Nat → Nat → List Int → Bool → World → Prop} (P : CodeOk pr) {A A2 : Option Addr} {n c n2 c2 : Nat} {b p : List Int} {w : World} (h1 : Base w A n c b) (h2 : Base w A2 n2 c2 p) (l2 : n2 ≤ 4000) :
    Calls Tryd.prog 11 #[.slice A n c, .slice (some ⟨w.heap.size, 0, none⟩) 1 1] (w.alloc (.cells #[.slice A2 n2 c2] 22)) (Out w (n + n2 + 8) (b ++ oneL p)) := by
  have e1 := h1.1
  have e2 := h2.1
  refine (P.bytes A (some ⟨w.heap.size, 0, none⟩) n c 1 1 b [⟨A2, c2, p⟩] (w.alloc (.cells #[.slice A2 n2 c2] 22)) (h1.next (below_new _ _)) rfl (pieces_has w _ _ (by rw [e2]; rfl) (fun r hr => by
    obtain rfl := List.mem_singleton.1 hr
    exact ⟨h2.2.1, by rw [← e2]; exact h2.2.2.1⟩)) (fun h => by cases h) (by omega) (by omega) (fun k hk => by
    have hk2 : k < 1 := hk
    obtain rfl : k = 0 := by omega
    show p.length ≤ 4000; omega) (fun k hk => by
    have hk2 : k < 1 := hk
    obtain rfl : k = 0 := by omega
    show p.length ≤ c2; rw [← e2]; exact h2.2.2.2.1)).mono fun e w' h => ?_
  rw [parts_one] at h
  exact out_of (below_new _ _) (by rw [List.length_append]; show _ = b.length + (oneL p).length; rw [oneL_len]; omega) h
theorem num_one {pr : Nat → Nat → Nat → List Int → Bool → World → Prop} (P : CodeOk pr) {A : Option Addr} {n c : Nat} {b : List Int} (x : Int) {w : World} (h1 : Base w A n c b) :
    Calls Tryd.prog 10 #[.slice A n c, .slice (some ⟨w.heap.size, 0, none⟩) 1 1] (w.alloc (.cells #[.int .i64 x] 3)) (Out w (n + 8) (b ++ be8 x)) := by
  have e1 := h1.1
  refine (P.number A (some ⟨w.heap.size, 0, none⟩) n c 1 1 b [x] (w.alloc (.cells #[.int .i64 x] 3)) (h1.next (below_new _ _)) rfl (one_has w x) (fun h => by cases h) (by omega) (by omega)).mono fun e w' h => ?_
  rw [beL_one] at h
  exact out_of (below_new _ _) (by rw [List.length_append, be8_len]; omega) h
theorem num_two {pr : Nat → Nat → Nat → List Int → Bool → World → Prop} (P : CodeOk pr) {A : Option Addr} {n c : Nat} {b : List Int} (x y : Int) {w : World} (h1 : Base w A n c b) :
    Calls Tryd.prog 10 #[.slice A n c, .slice (some ⟨w.heap.size, 0, none⟩) 2 2] (w.alloc (.cells #[.int .i64 x, .int .i64 y] 3)) (Out w (n + 16) (b ++ (be8 x ++ be8 y))) := by
  have e1 := h1.1
  refine (P.number A (some ⟨w.heap.size, 0, none⟩) n c 2 2 b [x, y] (w.alloc (.cells #[.int .i64 x, .int .i64 y] 3)) (h1.next (below_new _ _)) rfl (nums_has w [x, y]) (fun h => by cases h) (by omega) (by omega)).mono fun e w' h => ?_
  have e2 : beL [x, y] = be8 x ++ be8 y := two_be x y
  rw [e2] at h
  exact out_of (below_new _ _) (by rw [List.length_append, two_len]; omega) h
theorem text_one {pr : Nat → Nat → Nat → List Int → Bool → World → Prop} (P : CodeOk pr) {A : Option Addr} {n c k : Nat} {b l : List Int} {w : World} (h1 : Base w A n c b) (hl : k = l.length) (fl : Fit 8 l) (l2 : k ≤ 4000) :
    Calls Tryd.prog 12 #[.slice A n c, .string (strOfNums l)] w (Out w (n + k + 8) (b ++ oneL l)) := by
  have e1 := h1.1
  refine (P.text A n c b (strOfNums l) w h1 (by rw [strOf_size]; omega)).mono fun e w' h => ?_
  rw [strOf_size, strNums_of fl, List.append_assoc] at h
  exact out_of (Below.refl _ _) (by rw [List.length_append]; show _ = b.length + (oneL l).length; rw [oneL_len]; omega) h
/-- what was made may be appended to -/
theorem Base.own {w : World} {B n c : Nat} {A : Option Addr} {b : List Int} (h : w.ownsRow B 5 1 (.slice A n c) n (ints .u8 b)) (hn : n ≤ 10000) : Base w A n c b := Base.of h hn
theorem bytes_two0 {pr : Nat → Nat → Nat → List Int → Bool → World → Prop} (P : CodeOk pr) {A2 A3 : Option Addr} {n2 c2 n3 c3 : Nat} {p q : List Int} {w : World} (h2 : Base w A2 n2 c2 p) (h3 : Base w A3 n3 c3 q) (l2 : n2 ≤ 4000) (l3 : n3 ≤ 4000) :
    Calls Tryd.prog 11 #[.slice none 0 0, .slice (some ⟨w.heap.size, 0, none⟩) 2 2] (w.alloc (.cells #[.slice A2 n2 c2, .slice A3 n3 c3] 22)) (Out w (n2 + n3 + 16) (twoL p q)) := by
  have h := bytes_two P (base_nil w) h2 h3 l2 l3
  rw [Nat.zero_add, List.nil_append] at h
  exact h
theorem num_one0 {pr : Nat → Nat → Nat → List Int → Bool → World → Prop} (P : CodeOk pr) (x : Int) {w : World} :
    Calls Tryd.prog 10 #[.slice none 0 0, .slice (some ⟨w.heap.size, 0, none⟩) 1 1] (w.alloc (.cells #[.int .i64 x] 3)) (Out w 8 (be8 x)) := by
  have h := num_one P x (base_nil w)
  rw [Nat.zero_add, List.nil_append] at h
  exact h
theorem num_two0 {pr : Nat → Nat → Nat → List Int → Bool → World → Prop} (P : CodeOk pr) (x y : Int) {w : World} :
    Calls Tryd.prog 10 #[.slice none 0 0, .slice (some ⟨w.heap.size, 0, none⟩) 2 2] (w.alloc (.cells #[.int .i64 x, .int .i64 y] 3)) (Out w 16 (be8 x ++ be8 y)) := by
  have h := num_two P x y (base_nil w)
  rw [Nat.zero_add, List.nil_append] at h
  exact h
end Go.Proofs.YtmegjjfgiibobaaDoor
