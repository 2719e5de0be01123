/- Contracts: lists of tenants that are written over. Errors by their numbers; what is asked of the program's own functions (each is proved where the landed code is walked). -/
import Derived.Test.YtjpmglnhnfnmnaaDoorTe
import Derived.Test.YtjpmglnhnfnmnaaDoorEi
namespace Go.Proofs.YtjpmglnhnfnmnaaDoor
open Go.RowKit Slices

def OverTRel (w : World) (B g n c : Nat) (wr : World) : Prop := ∃ xs : List Value, wr.ownsRow B 46 3 (.slice (some ⟨g, 0, none⟩) n c) n xs ∧ w.grownBy wr (some g)
theorem cell_in {w : World} {B g n c : Nat} {xs : List Value} (h : w.ownsRow B 46 3 (.slice (some ⟨g, 0, none⟩) n c) n xs) {j : Nat} (hj : j < n * 3) : ∃ v, w.cell? ⟨g, j, none⟩ = some v := by
  rw [h.cellAt j hj]
  have := h.1
  rw [List.getElem?_eq_getElem (by omega)]
  exact ⟨_, rfl⟩
theorem stored3 {w : World} {B g n c : Nat} {xs : List Value} (h : w.ownsRow B 46 3 (.slice (some ⟨g, 0, none⟩) n c) n xs) (j : Nat) (a b d : Value) :
    ∃ ys, (((w.setCell ⟨g, j, none⟩ a).setCell ⟨g, j + 1, none⟩ b).setCell ⟨g, j + 2, none⟩ d).ownsRow B 46 3 (.slice (some ⟨g, 0, none⟩) n c) n ys ∧ w.grownBy (((w.setCell ⟨g, j, none⟩ a).setCell ⟨g, j + 1, none⟩ b).setCell ⟨g, j + 2, none⟩ d) (some g) := by
  obtain ⟨h1, g1⟩ := h.stored j a
  obtain ⟨h2, g2⟩ := h1.stored (j + 1) b
  obtain ⟨h3, g3⟩ := h2.stored (j + 2) d
  exact ⟨_, h3, grown_by_trans (grown_by_trans g1 g2) g3⟩

set_option maxRecDepth 100000 in
set_option maxHeartbeats 1000000 in
theorem overT_own (g n c B : Nat) (xs : List Value) (w : World) (h : w.ownsRow B 46 3 (.slice (some ⟨g, 0, none⟩) n c) n xs) (hB : B ≤ w.heap.size) (hn : n ≤ 1000) :
    Calls Tryd.prog 19 #[.slice (some ⟨g, 0, none⟩) n c] w fun e w' => e = .returned (.tuple #[]) ∧ w.grownBy w' (some g) := by
  obtain ⟨i0, hi0, hz0, hz1, hz2⟩ := info_parts Tryd.infoT
  have H := Lib.hid h
  clear h
  go_enter Tryd.func19, Tryd.ntmps19
  go_wp2
  go_loopw [2] (fun i wr => ∃ k : Nat, k ≤ n ∧ i = .int .i64 k ∧ OverTRel w B g n c wr) (fun i _ => n - (intOf i).toNat)
  case atStart => exact ⟨0, by omega, rfl, xs, H.out, World.grownBy.refl _ _⟩
  case round =>
    obtain ⟨k, hk, rfl, hr⟩ := hrel
    obtain ⟨ys, ho', hg'⟩ := hr
    by_cases hlt : k < n
    · obtain ⟨v0, hc0⟩ := cell_in ho' (j := k * 3) (by omega)
      obtain ⟨v1, hc1⟩ := cell_in ho' (j := k * 3 + 1) (by omega)
      obtain ⟨v2, hc2⟩ := cell_in ho' (j := k * 3 + 2) (by omega)
      have hf0 := ho'.frozenAt (k * 3)
      have hf1 := ho'.frozenAt (k * 3 + 1)
      have hf2 := ho'.frozenAt (k * 3 + 2)
      have HO := Lib.hid ho'
      have HG := Lib.hid hg'
      clear ho' hg'
      go_wp2
      go_roundw
      case rel =>
        obtain ⟨zs, o3, g3⟩ := stored3 HO.out (k * 3) (.int .i64 (-9)) (.int .i64 0) (.string { data := #[] })
        exact ⟨k + 1, by omega, by go_num, zs, o3, grown_by_trans HG.out g3⟩
      case measure => simp [intOf]; omega
    · have HO := Lib.hid ho'
      have HG := Lib.hid hg'
      clear ho' hg'
      have hsz : B ≤ wr.heap.size := by have := HG.out.size; omega
      go_wp2_with (at_builtin; refine wpList_append_own _ rfl _ _ 22 rfl B 46 i0 (.agg #[.int .i64 0, .int .i64 0, .string ByteArray.empty]) 3 32 Tryd.underlying22 hi0 hz0 hz1 hz2 rfl (by decide) _ n _ rfl (HO.out.alloc _) ⟨wr.heap.size, 0, none⟩ 1 1 [.int .i64 (-9), .int .i64 0, .string ByteArray.empty] rfl rfl (World.news_of_block (cs := #[.int .i64 (-9), .int .i64 0, .string ByteArray.empty]) (t := 46) (fr := (0, 0)) (heap_alloc_new wr _)) (by simp [Value.oneCell']) (by unfold maxLen; omega) (by omega) (by simp; omega) ?_; intro v1 w1 hown hgrow hnil; clear hnil; have HG2 := Lib.hid hgrow; clear hown hgrow)
      go_end0
      exact ⟨rfl, grown_by_trans (grown_by_trans HG.out (World.grownBy_alloc _ _ _)) HG2.out⟩

set_option maxRecDepth 100000 in
set_option maxHeartbeats 400000 in
theorem overT_nil (w : World) : Calls Tryd.prog 19 #[.slice none 0 0] w fun e w' => e = .returned (.tuple #[]) ∧ w.grownBy w' none := by
  obtain ⟨i0, hi0, hz0, hz1, hz2⟩ := info_parts Tryd.infoT
  go_enter Tryd.func19, Tryd.ntmps19
  go_wp2
  refine wp_loop_rounds 1 ?_
  rw [rounds_succ]
  go_wp2_with (at_builtin; refine wpList_append_own _ rfl _ _ 22 rfl w.heap.size 46 i0 (.agg #[.int .i64 0, .int .i64 0, .string ByteArray.empty]) 3 32 Tryd.underlying22 hi0 hz0 hz1 hz2 rfl (by decide) _ 0 _ rfl (World.ownsRow_nil _ _ _ _) ⟨w.heap.size, 0, none⟩ 1 1 [.int .i64 (-9), .int .i64 0, .string ByteArray.empty] rfl rfl (World.news_of_block (cs := #[.int .i64 (-9), .int .i64 0, .string ByteArray.empty]) (t := 46) (fr := (0, 0)) (heap_alloc_new w _)) (by simp [Value.oneCell']) (by unfold maxLen; omega) (by omega) (by simp) ?_; intro v1 w1 hown hgrow hnil; clear hnil; have HG2 := Lib.hid hgrow; clear hown hgrow)
  go_end0
  exact ⟨rfl, grown_by_trans (World.grownBy_alloc _ _ _) HG2.out⟩
/-- written over: nothing below block B is touched -/
theorem overT_any (A : Option Addr) (n c B : Nat) (l : List Ten) (w : World) (h : OwnT w B A n c l) (hB : B ≤ w.heap.size) (hn : n ≤ 1000) :
    Calls Tryd.prog 19 #[.slice A n c] w fun e w' => e = .returned (.tuple #[]) ∧ w.grownBy w' (Value.slice A n c).ownBlock := by
  rcases h.2 with ⟨hv, h0⟩ | ⟨g, c', cur, hv, hb, hg, hr⟩
  · injection hv with h1 h2 h3
    subst h1
    subst h2
    subst h3
    exact overT_nil w
  · injection hv with h1 h2 h3
    subst h1
    subst h3
    exact overT_own g n c B _ w h hB hn
theorem own_lies {t : TypeId} {s : Nat} {w : World} {B n c : Nat} {A : Option Addr} {xs : List Value} (h : w.ownsRow B t s (.slice A n c) n xs) : Lies A B w.heap.size := fun a e => by
  subst e
  exact h.lt a.block rfl

/-- an error whose number is c, wrapped once; of 0 none -/
def IsErr (c : Int) (v : Value) (w : World) : Prop := (c = 0 ∧ v = .nilIface) ∨ (c ≠ 0 ∧ ∃ (q : Nat) (p : Addr), v = .iface 64 (.pointer (some ⟨q, 0, none⟩)) ∧ w.cell? ⟨q, 1, none⟩ = some (.iface 49 (.pointer (some p))) ∧ w.cell? p = some (.int .i64 c))
theorem IsErr.next {c : Int} {v : Value} {w w' : World} (h : IsErr c v w) (hb : Below w.heap.size w w') : IsErr c v w' := by
  rcases h with h | ⟨h0, q, p, hv, hq, hc⟩
  · exact .inl h
  · exact .inr ⟨h0, q, p, hv, cell_below hq hb, cell_below hc hb⟩
theorem num_any (c : Int) (v : Value) (w : World) (hg : Han w) (h : IsErr c v w) :
    Calls Tryd.prog 12 #[v] w fun ev w' => ev = .returned (.int .i64 c) ∧ Below w.heap.size w w' := by
  rcases h with ⟨rfl, rfl⟩ | ⟨h0, q, p, rfl, hq, hc⟩
  · exact (num_nil w).mono fun e w' h => ⟨h.1, by rw [h.2]; exact Below.refl _ _⟩
  · exact num_w q p c w hg hq hc h0
theorem IsErr.none {v : Value} {w : World} (h : IsErr 0 v w) : v = .nilIface := by
  rcases h with h | h
  · exact h.2
  · exact absurd rfl h.1
theorem IsErr.some {c : Int} {v : Value} {w : World} (h : IsErr c v w) (h0 : c ≠ 0) : ∃ p, v = .iface 64 (.pointer (some p)) := by
  rcases h with h | ⟨_, q, p, hv, _⟩
  · exact absurd h.1 h0
  · exact ⟨_, hv⟩

/-- what the program's Add tells -/
def AddTold (w : World) (l : List Ten) (p : Int) (nm : ByteArray) (e : Ending) (w' : World) : Prop :=
  ∃ k A' n' c' v, AddT l p nm k ∧ e = .returned (.tuple #[.slice A' n' c', .int .i64 (addN l k), v]) ∧ OwnT w' w.heap.size A' n' c' (addL l p nm k) ∧ IsErr k v w' ∧ Below w.heap.size w w'
/-- what is asked of the program's functions: each is a contract -/
structure TenantsOk : Prop where
  may : ∀ (A : Option Addr) (n c : Nat) (l : List Ten) (w : World), RdT w A n c l →
    Calls Tryd.prog 17 #[.slice A n c] w fun e w' => e = .returned (.bool (mayC l)) ∧ Below w.heap.size w w'
  add : ∀ (A : Option Addr) (n c : Nat) (l : List Ten) (p : Int) (nm : ByteArray) (w : World), RdT w A n c l → I64 p → nm.size ≤ 4000 →
    Calls Tryd.prog 8 #[.slice A n c, .int .i64 p, .string nm] w (AddTold w l p nm)
  path : ∀ (A : Option Addr) (n c : Nat) (l : List Ten) (a : Int) (w : World), RdT w A n c l → I64 a →
    Calls Tryd.prog 10 #[.slice A n c, .int .i64 a] w (Res .i64 3 w (pathT l a))
  above : ∀ (A : Option Addr) (n c : Nat) (l : List Ten) (a b : Int) (w : World), RdT w A n c l → I64 a → I64 b →
    Calls Tryd.prog 15 #[.slice A n c, .int .i64 a, .int .i64 b] w fun e w' => e = .returned (.bool (decide (a ∈ pathT l b))) ∧ Below w.heap.size w w'
end Go.Proofs.YtjpmglnhnfnmnaaDoor
