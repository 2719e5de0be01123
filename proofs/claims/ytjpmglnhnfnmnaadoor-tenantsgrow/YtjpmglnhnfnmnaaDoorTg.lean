/- Contract: awake: what every program answers that is one. -/
import Derived.Test.YtjpmglnhnfnmnaaDoorTf
namespace Go.Proofs.YtjpmglnhnfnmnaaDoor
open Go.RowKit Slices

/-- one more, where what bars it is known -/
theorem add_is (P : TenantsOk) {A : Option Addr} {n c : Nat} {l : List Ten} {p : Int} {nm : ByteArray} {w : World} {k : Int} (hk : AddT l p nm k) (h : RdT w A n c l) (hp : I64 p) (hs : nm.size ≤ 4000) :
    Calls Tryd.prog 8 #[.slice A n c, .int .i64 p, .string nm] w fun e w' => ∃ A' n' c' v, e = .returned (.tuple #[.slice A' n' c', .int .i64 (addN l k), v]) ∧ OwnT w' w.heap.size A' n' c' (addL l p nm k) ∧ IsErr k v w' ∧ Below w.heap.size w w' :=
  (P.add A n c l p nm w h hp hs).mono fun e w' ⟨k', A', n', c', v, h1, h2, h3, h4, h5⟩ => by
    obtain rfl := add_one h1 hk
    exact ⟨A', n', c', v, h2, h3, h4, h5⟩
theorem nums_has (w : World) (l : List Int) : Has .i64 (w.alloc (.cells (ints .i64 l).toArray 3)) (w.alloc (.cells (ints .i64 l).toArray 3)).heap.size (some ⟨w.heap.size, 0, none⟩) l := fun k hk => by
  refine ⟨_, rfl, by simp, ?_⟩
  have e : (⟨w.heap.size, 0, none⟩ : Addr).add k = ⟨w.heap.size, k, none⟩ := by unfold Addr.add; split <;> simp_all
  rw [e, cell_of_row _ _ k _ _ _ (heap_alloc_new w (.cells (ints .i64 l).toArray 3))]
  simp only [List.getElem?_toArray]
  exact ints_at hk
theorem OwnT.rd {w : World} {B n c : Nat} {A : Option Addr} {l : List Ten} (h : OwnT w B A n c l) (m : MayT l) : RdT w A n c l := by
  have hl := ownT_len h
  have := m.few
  exact RdT.of h (by omega) fun k hk => may_fit m k (by omega)

def nmA : ByteArray := { data := #[97] }
def two : List Ten := moreT root 1 nmA
theorem add_first : AddT root 1 nmA 0 := .yes root_may (by decide) (by decide) (fun ⟨k, hk, h, _⟩ => by
  have e : k = 0 := by simp [root] at hk; omega
  subst e
  simp [tg, root] at h) (by decide)
theorem two_may : MayT two := add_may add_first
theorem two_again : AddT two 1 nmA 13 := .twice two_may (by decide) (by decide) ⟨1, by decide, rfl, rfl⟩
theorem path_one : pathT root 1 = [1] := by
  rw [pathT_step root_may (by decide) (by decide)]
  have e : (tg root (1 - 1 : Int).toNat).par = 0 := rfl
  rw [e, pathT_none (by decide)]
theorem path_two : pathT two 2 = [2, 1] := by
  have q := path_more add_first
  have e : ((root.length : Nat) : Int) + 1 = 2 := by decide
  rw [e, path_one] at q
  exact q
theorem path_two1 : pathT two 1 = [1] := by
  have q := path_stays root_may (x := ⟨2, 1, nmA⟩) two_may 1 (by decide) (by decide)
  rw [path_one] at q
  exact q
theorem i64_of {n : Int} (h0 : -1000 ≤ n) (h1 : n ≤ 1000) : I64 n := by unfold I64; omega

set_option maxRecDepth 100000 in
set_option maxHeartbeats 1000000 in
theorem awake_any (P : TenantsOk) (w : World) (hg : Han w) :
    Calls Tryd.prog 7 #[] w fun e w' => e = .returned (.bool true) ∧ Below w.heap.size w w' := by
  have HG := Lib.hid hg
  clear hg
  go_enter Tryd.func7, Tryd.ntmps7
  go_wp2_with fail
  refine (root_any w).mono ?_
  rintro e w1 ⟨g, rfl, ho, hb⟩
  have B1 := Lib.hid hb
  have O1 := Lib.hid ho
  clear hb ho
  go_wp2_with fail
  refine (add_is P add_first (O1.out.rd root_may) (i64_of (by decide) (by decide)) (by decide)).mono ?_
  rintro e w2 ⟨A2, n2, c2, v2, rfl, ho, he, hb⟩
  obtain rfl := he.none
  have e2 : n2 = 2 := (ownT_len ho).symm
  subst e2
  have B2 := Lib.hid (below_next B1.out hb)
  have O2 : Hid (OwnT w2 w1.heap.size A2 2 c2 two) := ho
  have eN : addN root 0 = 2 := by decide
  rw [eN]
  clear hb ho he B1 O1 eN
  go_wp2_with fail
  refine (add_is P two_again (O2.out.rd two_may) (i64_of (by decide) (by decide)) (by decide)).mono ?_
  rintro e w3 ⟨A3, n3, c3, v3, rfl, ho, he, hb⟩
  have E3 := Lib.hid he
  have B3 := Lib.hid (below_next B2.out hb)
  have O3 := Lib.hid (O2.out.next hb)
  clear hb ho he B2 O2
  go_wp2_with fail
  refine (num_any 13 v3 w3 (HG.out.below B3.out) E3.out).mono ?_
  rintro e w4 ⟨rfl, hb⟩
  have B4 := Lib.hid (below_next B3.out hb)
  have O4 := Lib.hid (O3.out.next hb)
  clear hb B3 O3 E3
  go_wp2_with fail
  refine (P.above A2 2 c2 two 1 2 w4 (O4.out.rd two_may) (i64_of (by decide) (by decide)) (i64_of (by decide) (by decide))).mono ?_
  rw [path_two, show decide ((1 : Int) ∈ [2, 1]) = true from rfl]
  rintro e w5 ⟨rfl, hb⟩
  have B5 := Lib.hid (below_next B4.out hb)
  have O5 := Lib.hid (O4.out.next hb)
  clear hb B4 O4
  go_wp2_with fail
  refine (P.above A2 2 c2 two 2 1 w5 (O5.out.rd two_may) (i64_of (by decide) (by decide)) (i64_of (by decide) (by decide))).mono ?_
  rw [path_two1, show decide ((2 : Int) ∈ [1]) = false from rfl]
  rintro e w6 ⟨rfl, hb⟩
  have B6 := Lib.hid (below_next B5.out hb)
  have O6 := Lib.hid (O5.out.next hb)
  clear hb B5 O5
  go_wp2_with fail
  refine (P.path A2 2 c2 two 2 w6 (O6.out.rd two_may) (i64_of (by decide) (by decide))).mono ?_
  rw [path_two]
  rintro e w7 ⟨A7, c7, rfl, ho, hb⟩
  have R7 := Lib.hid (own_read ho)
  have B7 := Lib.hid (below_next B6.out hb)
  have O7 := Lib.hid (O6.out.next hb)
  clear hb ho B6 O6
  go_wp2_with fail
  refine (same_eq A7 (some ⟨w7.heap.size, 0, none⟩) c7 2 2 2 [2, 1] [2, 1] (w7.alloc (.cells (ints .i64 [2, 1]).toArray 3)) rfl rfl rfl (by decide) (has_next R7.out ((Below.refl _ _).alloc (Nat.le_refl _) _)) (nums_has w7 [2, 1])).mono ?_
  rintro e w8 ⟨rfl, hb⟩
  have N8 : Hid (Below w7.heap.size w7 w8) := below_next ((Below.refl _ w7).alloc (Nat.le_refl _) _) hb
  have B8 := Lib.hid (below_next B7.out N8.out)
  have O8 := Lib.hid (O7.out.next N8.out)
  clear hb B7 O7 R7 N8
  go_wp2_with fail
  refine (P.may A2 2 c2 two w8 (O8.out.rd two_may)).mono ?_
  rw [mayC_yes two_may]
  rintro e w9 ⟨rfl, hb⟩
  have B9 := Lib.hid (below_next B8.out hb)
  clear hb B8 O8
  go_wp2
  go_ret
  exact ⟨rfl, B9.out⟩
end Go.Proofs.YtjpmglnhnfnmnaaDoor
