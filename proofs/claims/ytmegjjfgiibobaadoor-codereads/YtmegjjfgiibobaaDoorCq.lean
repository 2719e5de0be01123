/- The law CodeLays, walked. -/
import Derived.Test.YtmegjjfgiibobaaDoorCp
namespace Go.Proofs.YtmegjjfgiibobaaDoor
open Go.RowKit Slices Go.Proofs.YtmegjjfgiibobaaDoor.Bit

theorem num_any_l {pr : Nat → Nat → Nat → List Int → Bool → World → Prop} (P : CodeOk pr) {A A2 : Option Addr} {n c n2 c2 : Nat} {b ns : List Int} {w : World} (h1 : Base w A n c b) (e2 : n2 = ns.length) (h2 : Has .i64 w w.heap.size A2 ns) (k2 : A2 = none → n2 = 0 ∧ c2 = 0) (m2 : n2 ≤ c2) (l2 : n2 ≤ 100) :
    Calls Tryd.prog 10 #[.slice A n c, .slice A2 n2 c2] w (Out w (n + 8 * n2) (b ++ beL ns)) := by
  have e1 := h1.1
  exact (P.number A A2 n c n2 c2 b ns w h1 e2 h2 k2 m2 l2).mono fun e w' h => out_of (Below.refl _ _) (by rw [List.length_append, beL_len]; omega) h
theorem text_any_l {pr : Nat → Nat → Nat → List Int → Bool → World → Prop} (P : CodeOk pr) {A : Option Addr} {n c : Nat} {b : List Int} (s : ByteArray) {w : World} (h1 : Base w A n c b) (l2 : s.size ≤ 4000) :
    Calls Tryd.prog 12 #[.slice A n c, .string s] w (Out w (n + 8 + s.size) (b ++ be8 s.size ++ strNums s)) := by
  have e1 := h1.1
  exact (P.text A n c b s w h1 l2).mono fun e w' h => out_of (Below.refl _ _) (by rw [List.length_append, List.length_append, be8_len, strNums_len]; omega) h
theorem refNumber_l {A A2 : Option Addr} {n c n2 c2 : Nat} {b ns : List Int} {w : World} (h1 : Base w A n c b) (e2 : n2 = ns.length) (h2 : Has .i64 w w.heap.size A2 ns) (l2 : n2 ≤ 100) :
    Calls Tryd.prog 14 #[.slice A n c, .slice A2 n2 c2] w (Out w (n + 8 * n2) (b ++ beL ns)) := by
  obtain ⟨e1, hh, hA, _, hl⟩ := h1
  subst e1
  subst e2
  exact (refNumber_any A A2 c c2 b ns w hh hA h2 (by omega) (by omega)).mono fun e w' h => out_of (Below.refl _ _) (by rw [List.length_append, beL_len]) h
theorem refText_l {A : Option Addr} {n c : Nat} {b : List Int} (s : ByteArray) {w : World} (h1 : Base w A n c b) (l2 : s.size ≤ 4000) :
    Calls Tryd.prog 16 #[.slice A n c, .string s] w (Out w (n + 8 + s.size) (b ++ be8 s.size ++ strNums s)) := by
  obtain ⟨e1, hh, hA, _, hl⟩ := h1
  subst e1
  exact (refText_any A c b s w hh hA (by omega) l2).mono fun e w' h => out_of (Below.refl _ _) (by rw [List.length_append, List.length_append, be8_len, strNums_len]) h
theorem refBytes_two {A A2 A3 : Option Addr} {n c n2 c2 n3 c3 : Nat} {b p q : List Int} {w : World} (h1 : Base w A n c b) (h2 : Base w A2 n2 c2 p) (h3 : Base w A3 n3 c3 q) (l2 : n2 ≤ 4000) (l3 : n3 ≤ 4000) :
    Calls Tryd.prog 15 #[.slice A n c, .slice (some ⟨w.heap.size, 0, none⟩) 2 2] (w.alloc (.cells #[.slice A2 n2 c2, .slice A3 n3 c3] 22)) (Out w (n + n2 + n3 + 16) (b ++ twoL p q)) := by
  obtain ⟨e1, hh, hA, hc, hl⟩ := h1
  have e2 := h2.1
  have e3 := h3.1
  subst e1
  refine (refBytes_any A (some ⟨w.heap.size, 0, none⟩) c 2 b [⟨A2, c2, p⟩, ⟨A3, c3, q⟩] (w.alloc (.cells #[.slice A2 n2 c2, .slice A3 n3 c3] 22)) (has_next hh (below_new _ _)) hA (pieces_has w _ _ (by rw [e2, e3]; rfl) (fun r hr => by
    rcases List.mem_cons.1 hr with rfl | hr
    · exact ⟨h2.2.1, by rw [← e2]; exact h2.2.2.1⟩
    · obtain rfl := List.mem_singleton.1 hr
      exact ⟨h3.2.1, by rw [← e3]; exact h3.2.2.1⟩)) hl (by simp) (fun k hk => by
    have hk2 : k < 2 := hk
    rcases (show k = 0 ∨ k = 1 by omega) with rfl | rfl
    · show p.length ≤ 4000; omega
    · show q.length ≤ 4000; omega)).mono fun e w' h => ?_
  rw [parts_two] at h
  exact out_of (below_new _ _) (by rw [List.length_append]; show _ = b.length + (twoL p q).length; rw [twoL_len]; omega) h
theorem over_own {B n c : Nat} {A : Option Addr} {l : List Int} {w : World} (h : w.ownsRow B 5 1 (.slice A n c) n (ints .u8 l)) (hB : B ≤ w.heap.size) (hn : n ≤ 4000) :
    Calls Tryd.prog 17 #[.slice A n c] w fun e w' => e = .returned (.tuple #[]) ∧ w.grownBy w' (Value.slice A n c).ownBlock := by
  have hl := own_len h
  subst hl
  exact overB_any B c A l w ⟨h, hB⟩ hn
theorem kept_l {g B : Nat} {A : Option Addr} {n c : Nat} {l : List Int} {w : World} (h : LentB w B g l) (h' : Base w A n c l) (hn : n ≤ 4000) :
    Calls Tryd.prog 18 #[.slice (some ⟨g, 0, none⟩) n (n + 3), .slice A n c] w fun e w' => e = .returned (.bool true) ∧ Below w.heap.size w w' := by
  obtain ⟨e1, hh, _⟩ := h'
  subst e1
  exact keptB_any g B A c l w h hh hn
theorem lend_l {A : Option Addr} {n c : Nat} {l : List Int} {w : World} (h : Base w A n c l) (hn : n ≤ 4000) :
    Calls Tryd.prog 9 #[.slice A n c] w fun e w' => ∃ g, e = .returned (.slice (some ⟨g, 0, none⟩) n (n + 3)) ∧ LentB w' w.heap.size g l ∧ Below w.heap.size w w' := by
  obtain ⟨e1, hh, hA, _⟩ := h
  subst e1
  exact lendB_any A c l w hh hA hn
theorem lent_base {g B n : Nat} {l : List Int} {w : World} (h : LentB w B g l) (e : n = l.length) (hn : n ≤ 4000) : Base w (some ⟨g, 0, none⟩) n (n + 3) l :=
  ⟨e, lentB_has h, (fun h => by cases h), by omega, by omega⟩
theorem own_apart {t : TypeId} {w : World} {B n hi : Nat} {v v' : Value} {xs : List Value} (h : w.ownsRow B t 1 v n xs) (h' : ∀ q, v'.ownBlock = some q → q < hi) (hB : hi ≤ B) : v.ownBlock = none ∨ v.ownBlock ≠ v'.ownBlock := by
  cases hv : v.ownBlock with
  | none => exact .inl rfl
  | some q =>
    refine .inr fun e => ?_
    have h1 := (h.lt q hv).1
    have h2 := h' q e.symm
    omega
end Go.Proofs.YtmegjjfgiibobaaDoor
