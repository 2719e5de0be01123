/- Contracts: the document's own differences and products. -/
import Derived.Test.YtmjcgkddjgplkaaDoorF
namespace Go.Proofs.YtmjcgkddjgplkaaDoor
open Go.RowKit Slices Go.Proofs.YtmjcgkddjgplkaaDoor.Ring

set_option maxRecDepth 100000 in
set_option maxHeartbeats 2000000 in
theorem refSub_yes (A A' : Option Addr) (c c' : Nat) (l m : List Int) (w : World) (h : Has w w.heap.size A l) (h' : Has w w.heap.size A' m) (hp : IsPoly l) (hq : IsPoly m) :
    Calls Tryd.prog 20 #[.slice A l.length c, .slice A' m.length c'] w (Gives w (toL (vSub (vec l) (vec m)))) := by
  obtain ⟨i0, hi0, hz0, hz1, hz2⟩ := info_parts Tryd.info3
  have n0 : l.length ≤ 256 := by rw [hp.1]; exact Nat.le_refl _
  have n1 : 256 ≤ l.length := by rw [hp.1]; exact Nat.le_refl _
  have k0 : m.length ≤ 256 := by rw [hq.1]; exact Nat.le_refl _
  have k1 : 256 ≤ m.length := by rw [hq.1]; exact Nat.le_refl _
  have HP := Lib.hid hp
  have HQ := Lib.hid hq
  have H := Lib.hid h
  have H' := Lib.hid h'
  clear h hp hq h'
  go_enter Tryd.func20, Tryd.ntmps20
  go_wp2_with (first
    | (go_at_call 25; (first | (with_reducible refine (may_yes _ _ _ l _ H.out HP.out).mono ?_) | (with_reducible refine (may_yes _ _ _ l _ (H.out.drewN _) HP.out).mono ?_) | (with_reducible refine (may_yes _ _ _ m _ (H'.out.drewN _) HQ.out).mono ?_)); rintro e w' ⟨rfl, n, rfl⟩))
  go_loopw [5, 6] (fun v i wr => ∃ k : Nat, k ≤ 256 ∧ i = .int .i64 k ∧ Part w (vSub (vec l) (vec m)) k v wr) (fun _ i _ => 256 - (intOf i).toNat)
  case atStart => exact ⟨0, by omega, rfl, World.ownsRow_nil _ _ _ _, below_drewN (Below.refl _ _) _⟩
  case round =>
    obtain ⟨k, hk, rfl, hr⟩ := hrel
    have HR := Lib.hid hr
    clear hr
    by_cases hlt : k < 256
    · have bk : decide ((k : Int) < 256) = true := by rw [decide_eq_true_iff]; omega
      have hw := H.out.below HR.out.2
      have hw' := H'.out.below HR.out.2
      have HW := Lib.hid hw
      have HW' := Lib.hid hw'
      clear hw hw'
      obtain ⟨a, rfl, hab, ha⟩ := HW.out k (by omega)
      obtain ⟨a', rfl, hab', ha'⟩ := HW'.out k (by omega)
      have hba : (a.add k).block < w.heap.size := by rw [add_block]; exact hab
      have hba' : (a'.add k).block < w.heap.size := by rw [add_block]; exact hab'
      generalize hX : l.getD k 0 = X at ha
      generalize hY : m.getD k 0 = Y at ha'
      have HX := Lib.hid hX
      have HY := Lib.hid hY
      clear hX hY
      go_wp2
      have hkl : k < l.length := by omega
      have hkm : k < m.length := by omega
      obtain ⟨w2, hW⟩ : ∃ w2, wr = w2 := ⟨_, rfl⟩
      have c1 : w2.cell? (a.add k) = some (.int .i64 X) := by rw [← hW]; exact ha
      have c2 : w2.cell? (a'.add k) = some (.int .i64 Y) := by rw [← hW]; exact ha'
      have hR2 : Part w (vSub (vec l) (vec m)) k u5 w2 := by
        have := HR.out
        rw [← hW]
        exact this
      have hown := hR2.1
      have HB := Lib.hid hR2.2
      have hsz : w.heap.size ≤ w2.heap.size := hR2.2.size
      clear ha ha' hR2
      rw [hW]
      clear hW
      have hi1 : (k : Int) < (l.length : Int) := by omega
      have hi2 : (k : Int) < (m.length : Int) := by omega
      have hi0' : (0 : Int) ≤ (k : Int) := Int.natCast_nonneg _
      have na : u5.ownBlock ≠ some (a.add k).block := fun e => by have := (hown.lt _ e).1; omega
      have na' : u5.ownBlock ≠ some (a'.add k).block := fun e => by have := (hown.lt _ e).1; omega
      have HOW := Lib.hid hown
      clear hown
      go_region_held3 (fun w' => w'.cell? (a.add k) = some (.int .i64 X) ∧ w'.cell? (a'.add k) = some (.int .i64 Y))
        (first
          | go_keep
          | (go_split_ands; refine ⟨?_, ?_⟩; (rw [hgrow.cell_far _ (by simp; omega) (Ne.symm na)]; assumption); (rw [hgrow.cell_far _ (by simp; omega) (Ne.symm na')]; assumption)))
        (first
          | (go_at_call 43; refine (refSub_any _ _ _).mono ?_; rintro e w' ⟨rfl, rfl⟩)
          | (refine step_append_lies _ (by rfl) _ _ _ (by rfl) w.heap.size 3 i0 _ 1 8 Tryd.underlying22 hi0 hz0 hz1 hz2 rfl (by omega) u5 k _ (by rfl) ((HOW.out.alloc _).drew) ⟨w2.heap.size, 0, none⟩ 1 1 [.int .i64 (rSub X Y)] (by rfl) (by rfl) (World.news_of_block (cs := #[.int .i64 (rSub X Y)]) (t := 3) (fr := (0, 0)) (heap_alloc_new w2 _)) (by simp [Value.oneCell']) (by omega) (by unfold maxLen; omega) (by omega) (by simp; omega) (w2.heap.size + 1) (by simp) ?_; intro gg cap w3 hown3 hgrow hat hlt'))
      have hP : Part w (vSub (vec l) (vec m)) (k + 1) (.slice (some ⟨gg, 0, none⟩) (k + 1) cap) w3 :=
        Part.next ((HB.out.alloc hsz _).drew) HOW.out hown3 hgrow hlt (rSub_ok X Y) (by rw [phi_rSub, ← HX.out, ← HY.out]; rfl)
      have HPN := Lib.hid hP
      clear hP hown3 hgrow hat hlt' na na' HOW
      go_wp2
      go_roundw
      case rel => exact ⟨k + 1, by omega, by go_num, HPN.out⟩
      case measure => simp [intOf]; omega
    · go_wp2
      go_ret
      exact HR.out.gives (by omega)
end Go.Proofs.YtmjcgkddjgplkaaDoor
