/- Contracts of Squash and Stretch. -/
import Derived.Test.YtlaejnbkgikfcaaDoorC
import Derived.ProofKit
import Derived.Deep.QuietTactic
import Derived.BigQuiet
namespace Go.Proofs.YtlaejnbkgikfcaaDoor
open Go.RowKit Ring

theorem quiet_eq {P : Program} {f : FuncId} {args : Array Value} {w : World} {n : Nat} {v : Value}
    (h : Calls P f args (w.drewN n) fun e w' => e = .returned v ∧ w.drewN n = w') : Calls P f args (w.drewN n) fun e w'' => e = .returned v ∧ ∃ m, w'' = w.drewN m :=
  h.mono fun _ _ ⟨he, hm⟩ => ⟨he, n, hm.symm⟩

set_option maxHeartbeats 400000 in
theorem width_yes (d : Int) (w : World) (h0 : 1 ≤ d) (h1 : d ≤ 11) :
    Calls Tryd.prog 28 #[.int .i64 d] w fun e w' => e = .returned (.bool true) ∧ w = w' := by
  go_enter Tryd.func28, Tryd.ntmps28
  go_wp2
  go_ret
  exact ⟨rfl, rfl⟩

set_option maxHeartbeats 400000 in
theorem width_no (d : Int) (w : World) (h : d < 1 ∨ 11 < d) :
    Calls Tryd.prog 28 #[.int .i64 d] w fun e w' => e = .returned (.bool false) ∧ w = w' := by
  by_cases h0 : 1 ≤ d
  · have h1 : ¬ d ≤ 11 := by omega
    clear h
    go_enter Tryd.func28, Tryd.ntmps28
    go_wp2
    go_ret
    exact ⟨rfl, rfl⟩
  · clear h
    go_enter Tryd.func28, Tryd.ntmps28
    go_wp2
    go_ret
    exact ⟨rfl, rfl⟩

theorem grown_drewN {W w' : World} (h : Grown W w') (n : Nat) : Grown W (w'.drewN n) := h

set_option maxHeartbeats 400000 in
theorem lowest1 (w : World) :
    Calls Tryd.prog 29 #[.int .i64 1] w fun e w' => e = .returned (.int .i64 1) ∧ w = w' := by
  go_enter Tryd.func29, Tryd.ntmps29
  go_wp2
  go_ret
  exact ⟨rfl, rfl⟩

set_option maxHeartbeats 400000 in
theorem squash1 (x : Int) (w : World) :
    Calls Tryd.prog 22 #[.int .i64 1, .int .i64 x] w fun e w' => e = .returned (.int .i64 (rSquash 1 x)) ∧ Grown w w' := by
  have a0 := rOf_lo x
  have a1 := rOf_hi x
  go_enter Tryd.func22, Tryd.ntmps22
  go_wp2_with (go_at_call 28; refine (width_yes _ _ (by omega) (by omega)).mono ?_; rintro e w' ⟨rfl, rfl⟩)
  go_quiet ((first | (go_at_call 10; exact quiet_eq (of_any _ _)) | (go_at_call 29; exact quiet_eq (lowest1 _))))
  go_wp2
  go_ret
  exact ⟨ret_int (and1 _), grown_drewN (Grown.refl _) _⟩

set_option maxHeartbeats 400000 in
theorem stretch1 (y : Int) (w : World) :
    Calls Tryd.prog 24 #[.int .i64 1, .int .i64 y] w fun e w' => e = .returned (.int .i64 (rStretch 1 y)) ∧ Grown w w' := by
  have he : bits BinOp.and IntKind.i64 y 1 = y % 2 := and1 y
  go_enter Tryd.func24, Tryd.ntmps24
  go_wp2_with (go_at_call 28; refine (width_yes _ _ (by omega) (by omega)).mono ?_; rintro e w' ⟨rfl, rfl⟩)
  go_quiet ((go_at_call 29; exact quiet_eq (lowest1 _)))
  go_wp2
  go_ret
  exact ⟨ret_int (rStretch_1 y).symm, grown_drewN (Grown.refl _) _⟩

set_option maxHeartbeats 400000 in
theorem refSquash1 (x : Int) (w : World) :
    Calls Tryd.prog 23 #[.int .i64 1, .int .i64 x] w fun e w' => e = .returned (.int .i64 (rSquash 1 x)) ∧ Grown w w' := by
  have a0 := rOf_lo x
  have a1 := rOf_hi x
  go_enter Tryd.func23, Tryd.ntmps23
  go_wp2
  go_quiet ((go_at_call 11; exact quiet_eq (refOf_any _ _)))
  go_wp2
  go_ret
  exact ⟨ret_int (refSquash_1 x), grown_drewN (Grown.refl _) _⟩

set_option maxHeartbeats 400000 in
theorem refStretch1 (y : Int) (w : World) :
    Calls Tryd.prog 25 #[.int .i64 1, .int .i64 y] w fun e w' => e = .returned (.int .i64 (rStretch 1 y)) ∧ Grown w w' := by
  have he : bits BinOp.and IntKind.i64 y 1 = y % 2 := and1 y
  go_enter Tryd.func25, Tryd.ntmps25
  go_wp2
  go_quiet (fail)
  go_wp2
  go_ret
  exact ⟨ret_int (refStretch_1 y), grown_drewN (Grown.refl _) _⟩

set_option maxHeartbeats 400000 in
theorem lowest2 (w : World) :
    Calls Tryd.prog 29 #[.int .i64 2] w fun e w' => e = .returned (.int .i64 3) ∧ w = w' := by
  go_enter Tryd.func29, Tryd.ntmps29
  go_wp2
  go_ret
  exact ⟨rfl, rfl⟩

set_option maxHeartbeats 400000 in
theorem squash2 (x : Int) (w : World) :
    Calls Tryd.prog 22 #[.int .i64 2, .int .i64 x] w fun e w' => e = .returned (.int .i64 (rSquash 2 x)) ∧ Grown w w' := by
  have a0 := rOf_lo x
  have a1 := rOf_hi x
  go_enter Tryd.func22, Tryd.ntmps22
  go_wp2_with (go_at_call 28; refine (width_yes _ _ (by omega) (by omega)).mono ?_; rintro e w' ⟨rfl, rfl⟩)
  go_quiet ((first | (go_at_call 10; exact quiet_eq (of_any _ _)) | (go_at_call 29; exact quiet_eq (lowest2 _))))
  go_wp2
  go_ret
  exact ⟨ret_int (and3 _), grown_drewN (Grown.refl _) _⟩

set_option maxHeartbeats 400000 in
theorem stretch2 (y : Int) (w : World) :
    Calls Tryd.prog 24 #[.int .i64 2, .int .i64 y] w fun e w' => e = .returned (.int .i64 (rStretch 2 y)) ∧ Grown w w' := by
  have he : bits BinOp.and IntKind.i64 y 3 = y % 4 := and3 y
  go_enter Tryd.func24, Tryd.ntmps24
  go_wp2_with (go_at_call 28; refine (width_yes _ _ (by omega) (by omega)).mono ?_; rintro e w' ⟨rfl, rfl⟩)
  go_quiet ((go_at_call 29; exact quiet_eq (lowest2 _)))
  go_wp2
  go_ret
  exact ⟨ret_int (rStretch_2 y).symm, grown_drewN (Grown.refl _) _⟩

set_option maxHeartbeats 400000 in
theorem refSquash2 (x : Int) (w : World) :
    Calls Tryd.prog 23 #[.int .i64 2, .int .i64 x] w fun e w' => e = .returned (.int .i64 (rSquash 2 x)) ∧ Grown w w' := by
  have a0 := rOf_lo x
  have a1 := rOf_hi x
  go_enter Tryd.func23, Tryd.ntmps23
  go_wp2
  go_quiet ((go_at_call 11; exact quiet_eq (refOf_any _ _)))
  go_wp2
  go_ret
  exact ⟨ret_int (refSquash_2 x), grown_drewN (Grown.refl _) _⟩

set_option maxHeartbeats 400000 in
theorem refStretch2 (y : Int) (w : World) :
    Calls Tryd.prog 25 #[.int .i64 2, .int .i64 y] w fun e w' => e = .returned (.int .i64 (rStretch 2 y)) ∧ Grown w w' := by
  have he : bits BinOp.and IntKind.i64 y 3 = y % 4 := and3 y
  go_enter Tryd.func25, Tryd.ntmps25
  go_wp2
  go_quiet (fail)
  go_wp2
  go_ret
  exact ⟨ret_int (refStretch_2 y), grown_drewN (Grown.refl _) _⟩

set_option maxHeartbeats 400000 in
theorem lowest3 (w : World) :
    Calls Tryd.prog 29 #[.int .i64 3] w fun e w' => e = .returned (.int .i64 7) ∧ w = w' := by
  go_enter Tryd.func29, Tryd.ntmps29
  go_wp2
  go_ret
  exact ⟨rfl, rfl⟩

set_option maxHeartbeats 400000 in
theorem squash3 (x : Int) (w : World) :
    Calls Tryd.prog 22 #[.int .i64 3, .int .i64 x] w fun e w' => e = .returned (.int .i64 (rSquash 3 x)) ∧ Grown w w' := by
  have a0 := rOf_lo x
  have a1 := rOf_hi x
  go_enter Tryd.func22, Tryd.ntmps22
  go_wp2_with (go_at_call 28; refine (width_yes _ _ (by omega) (by omega)).mono ?_; rintro e w' ⟨rfl, rfl⟩)
  go_quiet ((first | (go_at_call 10; exact quiet_eq (of_any _ _)) | (go_at_call 29; exact quiet_eq (lowest3 _))))
  go_wp2
  go_ret
  exact ⟨ret_int (and7 _), grown_drewN (Grown.refl _) _⟩

set_option maxHeartbeats 400000 in
theorem stretch3 (y : Int) (w : World) :
    Calls Tryd.prog 24 #[.int .i64 3, .int .i64 y] w fun e w' => e = .returned (.int .i64 (rStretch 3 y)) ∧ Grown w w' := by
  have he : bits BinOp.and IntKind.i64 y 7 = y % 8 := and7 y
  go_enter Tryd.func24, Tryd.ntmps24
  go_wp2_with (go_at_call 28; refine (width_yes _ _ (by omega) (by omega)).mono ?_; rintro e w' ⟨rfl, rfl⟩)
  go_quiet ((go_at_call 29; exact quiet_eq (lowest3 _)))
  go_wp2
  go_ret
  exact ⟨ret_int (rStretch_3 y).symm, grown_drewN (Grown.refl _) _⟩

set_option maxHeartbeats 400000 in
theorem refSquash3 (x : Int) (w : World) :
    Calls Tryd.prog 23 #[.int .i64 3, .int .i64 x] w fun e w' => e = .returned (.int .i64 (rSquash 3 x)) ∧ Grown w w' := by
  have a0 := rOf_lo x
  have a1 := rOf_hi x
  go_enter Tryd.func23, Tryd.ntmps23
  go_wp2
  go_quiet ((go_at_call 11; exact quiet_eq (refOf_any _ _)))
  go_wp2
  go_ret
  exact ⟨ret_int (refSquash_3 x), grown_drewN (Grown.refl _) _⟩

set_option maxHeartbeats 400000 in
theorem refStretch3 (y : Int) (w : World) :
    Calls Tryd.prog 25 #[.int .i64 3, .int .i64 y] w fun e w' => e = .returned (.int .i64 (rStretch 3 y)) ∧ Grown w w' := by
  have he : bits BinOp.and IntKind.i64 y 7 = y % 8 := and7 y
  go_enter Tryd.func25, Tryd.ntmps25
  go_wp2
  go_quiet (fail)
  go_wp2
  go_ret
  exact ⟨ret_int (refStretch_3 y), grown_drewN (Grown.refl _) _⟩

set_option maxHeartbeats 400000 in
theorem lowest4 (w : World) :
    Calls Tryd.prog 29 #[.int .i64 4] w fun e w' => e = .returned (.int .i64 15) ∧ w = w' := by
  go_enter Tryd.func29, Tryd.ntmps29
  go_wp2
  go_ret
  exact ⟨rfl, rfl⟩

set_option maxHeartbeats 400000 in
theorem squash4 (x : Int) (w : World) :
    Calls Tryd.prog 22 #[.int .i64 4, .int .i64 x] w fun e w' => e = .returned (.int .i64 (rSquash 4 x)) ∧ Grown w w' := by
  have a0 := rOf_lo x
  have a1 := rOf_hi x
  go_enter Tryd.func22, Tryd.ntmps22
  go_wp2_with (go_at_call 28; refine (width_yes _ _ (by omega) (by omega)).mono ?_; rintro e w' ⟨rfl, rfl⟩)
  go_quiet ((first | (go_at_call 10; exact quiet_eq (of_any _ _)) | (go_at_call 29; exact quiet_eq (lowest4 _))))
  go_wp2
  go_ret
  exact ⟨ret_int (and15 _), grown_drewN (Grown.refl _) _⟩

set_option maxHeartbeats 400000 in
theorem stretch4 (y : Int) (w : World) :
    Calls Tryd.prog 24 #[.int .i64 4, .int .i64 y] w fun e w' => e = .returned (.int .i64 (rStretch 4 y)) ∧ Grown w w' := by
  have he : bits BinOp.and IntKind.i64 y 15 = y % 16 := and15 y
  go_enter Tryd.func24, Tryd.ntmps24
  go_wp2_with (go_at_call 28; refine (width_yes _ _ (by omega) (by omega)).mono ?_; rintro e w' ⟨rfl, rfl⟩)
  go_quiet ((go_at_call 29; exact quiet_eq (lowest4 _)))
  go_wp2
  go_ret
  exact ⟨ret_int (rStretch_4 y).symm, grown_drewN (Grown.refl _) _⟩

set_option maxHeartbeats 400000 in
theorem refSquash4 (x : Int) (w : World) :
    Calls Tryd.prog 23 #[.int .i64 4, .int .i64 x] w fun e w' => e = .returned (.int .i64 (rSquash 4 x)) ∧ Grown w w' := by
  have a0 := rOf_lo x
  have a1 := rOf_hi x
  go_enter Tryd.func23, Tryd.ntmps23
  go_wp2
  go_quiet ((go_at_call 11; exact quiet_eq (refOf_any _ _)))
  go_wp2
  go_ret
  exact ⟨ret_int (refSquash_4 x), grown_drewN (Grown.refl _) _⟩

set_option maxHeartbeats 400000 in
theorem refStretch4 (y : Int) (w : World) :
    Calls Tryd.prog 25 #[.int .i64 4, .int .i64 y] w fun e w' => e = .returned (.int .i64 (rStretch 4 y)) ∧ Grown w w' := by
  have he : bits BinOp.and IntKind.i64 y 15 = y % 16 := and15 y
  go_enter Tryd.func25, Tryd.ntmps25
  go_wp2
  go_quiet (fail)
  go_wp2
  go_ret
  exact ⟨ret_int (refStretch_4 y), grown_drewN (Grown.refl _) _⟩

set_option maxHeartbeats 400000 in
theorem lowest5 (w : World) :
    Calls Tryd.prog 29 #[.int .i64 5] w fun e w' => e = .returned (.int .i64 31) ∧ w = w' := by
  go_enter Tryd.func29, Tryd.ntmps29
  go_wp2
  go_ret
  exact ⟨rfl, rfl⟩

set_option maxHeartbeats 400000 in
theorem squash5 (x : Int) (w : World) :
    Calls Tryd.prog 22 #[.int .i64 5, .int .i64 x] w fun e w' => e = .returned (.int .i64 (rSquash 5 x)) ∧ Grown w w' := by
  have a0 := rOf_lo x
  have a1 := rOf_hi x
  go_enter Tryd.func22, Tryd.ntmps22
  go_wp2_with (go_at_call 28; refine (width_yes _ _ (by omega) (by omega)).mono ?_; rintro e w' ⟨rfl, rfl⟩)
  go_quiet ((first | (go_at_call 10; exact quiet_eq (of_any _ _)) | (go_at_call 29; exact quiet_eq (lowest5 _))))
  go_wp2
  go_ret
  exact ⟨ret_int (and31 _), grown_drewN (Grown.refl _) _⟩

set_option maxHeartbeats 400000 in
theorem stretch5 (y : Int) (w : World) :
    Calls Tryd.prog 24 #[.int .i64 5, .int .i64 y] w fun e w' => e = .returned (.int .i64 (rStretch 5 y)) ∧ Grown w w' := by
  have he : bits BinOp.and IntKind.i64 y 31 = y % 32 := and31 y
  go_enter Tryd.func24, Tryd.ntmps24
  go_wp2_with (go_at_call 28; refine (width_yes _ _ (by omega) (by omega)).mono ?_; rintro e w' ⟨rfl, rfl⟩)
  go_quiet ((go_at_call 29; exact quiet_eq (lowest5 _)))
  go_wp2
  go_ret
  exact ⟨ret_int (rStretch_5 y).symm, grown_drewN (Grown.refl _) _⟩

set_option maxHeartbeats 400000 in
theorem refSquash5 (x : Int) (w : World) :
    Calls Tryd.prog 23 #[.int .i64 5, .int .i64 x] w fun e w' => e = .returned (.int .i64 (rSquash 5 x)) ∧ Grown w w' := by
  have a0 := rOf_lo x
  have a1 := rOf_hi x
  go_enter Tryd.func23, Tryd.ntmps23
  go_wp2
  go_quiet ((go_at_call 11; exact quiet_eq (refOf_any _ _)))
  go_wp2
  go_ret
  exact ⟨ret_int (refSquash_5 x), grown_drewN (Grown.refl _) _⟩

set_option maxHeartbeats 400000 in
theorem refStretch5 (y : Int) (w : World) :
    Calls Tryd.prog 25 #[.int .i64 5, .int .i64 y] w fun e w' => e = .returned (.int .i64 (rStretch 5 y)) ∧ Grown w w' := by
  have he : bits BinOp.and IntKind.i64 y 31 = y % 32 := and31 y
  go_enter Tryd.func25, Tryd.ntmps25
  go_wp2
  go_quiet (fail)
  go_wp2
  go_ret
  exact ⟨ret_int (refStretch_5 y), grown_drewN (Grown.refl _) _⟩

set_option maxHeartbeats 400000 in
theorem lowest6 (w : World) :
    Calls Tryd.prog 29 #[.int .i64 6] w fun e w' => e = .returned (.int .i64 63) ∧ w = w' := by
  go_enter Tryd.func29, Tryd.ntmps29
  go_wp2
  go_ret
  exact ⟨rfl, rfl⟩

set_option maxHeartbeats 400000 in
theorem squash6 (x : Int) (w : World) :
    Calls Tryd.prog 22 #[.int .i64 6, .int .i64 x] w fun e w' => e = .returned (.int .i64 (rSquash 6 x)) ∧ Grown w w' := by
  have a0 := rOf_lo x
  have a1 := rOf_hi x
  go_enter Tryd.func22, Tryd.ntmps22
  go_wp2_with (go_at_call 28; refine (width_yes _ _ (by omega) (by omega)).mono ?_; rintro e w' ⟨rfl, rfl⟩)
  go_quiet ((first | (go_at_call 10; exact quiet_eq (of_any _ _)) | (go_at_call 29; exact quiet_eq (lowest6 _))))
  go_wp2
  go_ret
  exact ⟨ret_int (and63 _), grown_drewN (Grown.refl _) _⟩

set_option maxHeartbeats 400000 in
theorem stretch6 (y : Int) (w : World) :
    Calls Tryd.prog 24 #[.int .i64 6, .int .i64 y] w fun e w' => e = .returned (.int .i64 (rStretch 6 y)) ∧ Grown w w' := by
  have he : bits BinOp.and IntKind.i64 y 63 = y % 64 := and63 y
  go_enter Tryd.func24, Tryd.ntmps24
  go_wp2_with (go_at_call 28; refine (width_yes _ _ (by omega) (by omega)).mono ?_; rintro e w' ⟨rfl, rfl⟩)
  go_quiet ((go_at_call 29; exact quiet_eq (lowest6 _)))
  go_wp2
  go_ret
  exact ⟨ret_int (rStretch_6 y).symm, grown_drewN (Grown.refl _) _⟩

set_option maxHeartbeats 400000 in
theorem refSquash6 (x : Int) (w : World) :
    Calls Tryd.prog 23 #[.int .i64 6, .int .i64 x] w fun e w' => e = .returned (.int .i64 (rSquash 6 x)) ∧ Grown w w' := by
  have a0 := rOf_lo x
  have a1 := rOf_hi x
  go_enter Tryd.func23, Tryd.ntmps23
  go_wp2
  go_quiet ((go_at_call 11; exact quiet_eq (refOf_any _ _)))
  go_wp2
  go_ret
  exact ⟨ret_int (refSquash_6 x), grown_drewN (Grown.refl _) _⟩

set_option maxHeartbeats 400000 in
theorem refStretch6 (y : Int) (w : World) :
    Calls Tryd.prog 25 #[.int .i64 6, .int .i64 y] w fun e w' => e = .returned (.int .i64 (rStretch 6 y)) ∧ Grown w w' := by
  have he : bits BinOp.and IntKind.i64 y 63 = y % 64 := and63 y
  go_enter Tryd.func25, Tryd.ntmps25
  go_wp2
  go_quiet (fail)
  go_wp2
  go_ret
  exact ⟨ret_int (refStretch_6 y), grown_drewN (Grown.refl _) _⟩

set_option maxHeartbeats 400000 in
theorem lowest7 (w : World) :
    Calls Tryd.prog 29 #[.int .i64 7] w fun e w' => e = .returned (.int .i64 127) ∧ w = w' := by
  go_enter Tryd.func29, Tryd.ntmps29
  go_wp2
  go_ret
  exact ⟨rfl, rfl⟩

set_option maxHeartbeats 400000 in
theorem squash7 (x : Int) (w : World) :
    Calls Tryd.prog 22 #[.int .i64 7, .int .i64 x] w fun e w' => e = .returned (.int .i64 (rSquash 7 x)) ∧ Grown w w' := by
  have a0 := rOf_lo x
  have a1 := rOf_hi x
  go_enter Tryd.func22, Tryd.ntmps22
  go_wp2_with (go_at_call 28; refine (width_yes _ _ (by omega) (by omega)).mono ?_; rintro e w' ⟨rfl, rfl⟩)
  go_quiet ((first | (go_at_call 10; exact quiet_eq (of_any _ _)) | (go_at_call 29; exact quiet_eq (lowest7 _))))
  go_wp2
  go_ret
  exact ⟨ret_int (and127 _), grown_drewN (Grown.refl _) _⟩

set_option maxHeartbeats 400000 in
theorem stretch7 (y : Int) (w : World) :
    Calls Tryd.prog 24 #[.int .i64 7, .int .i64 y] w fun e w' => e = .returned (.int .i64 (rStretch 7 y)) ∧ Grown w w' := by
  have he : bits BinOp.and IntKind.i64 y 127 = y % 128 := and127 y
  go_enter Tryd.func24, Tryd.ntmps24
  go_wp2_with (go_at_call 28; refine (width_yes _ _ (by omega) (by omega)).mono ?_; rintro e w' ⟨rfl, rfl⟩)
  go_quiet ((go_at_call 29; exact quiet_eq (lowest7 _)))
  go_wp2
  go_ret
  exact ⟨ret_int (rStretch_7 y).symm, grown_drewN (Grown.refl _) _⟩

set_option maxHeartbeats 400000 in
theorem refSquash7 (x : Int) (w : World) :
    Calls Tryd.prog 23 #[.int .i64 7, .int .i64 x] w fun e w' => e = .returned (.int .i64 (rSquash 7 x)) ∧ Grown w w' := by
  have a0 := rOf_lo x
  have a1 := rOf_hi x
  go_enter Tryd.func23, Tryd.ntmps23
  go_wp2
  go_quiet ((go_at_call 11; exact quiet_eq (refOf_any _ _)))
  go_wp2
  go_ret
  exact ⟨ret_int (refSquash_7 x), grown_drewN (Grown.refl _) _⟩

set_option maxHeartbeats 400000 in
theorem refStretch7 (y : Int) (w : World) :
    Calls Tryd.prog 25 #[.int .i64 7, .int .i64 y] w fun e w' => e = .returned (.int .i64 (rStretch 7 y)) ∧ Grown w w' := by
  have he : bits BinOp.and IntKind.i64 y 127 = y % 128 := and127 y
  go_enter Tryd.func25, Tryd.ntmps25
  go_wp2
  go_quiet (fail)
  go_wp2
  go_ret
  exact ⟨ret_int (refStretch_7 y), grown_drewN (Grown.refl _) _⟩

set_option maxHeartbeats 400000 in
theorem lowest8 (w : World) :
    Calls Tryd.prog 29 #[.int .i64 8] w fun e w' => e = .returned (.int .i64 255) ∧ w = w' := by
  go_enter Tryd.func29, Tryd.ntmps29
  go_wp2
  go_ret
  exact ⟨rfl, rfl⟩

set_option maxHeartbeats 400000 in
theorem squash8 (x : Int) (w : World) :
    Calls Tryd.prog 22 #[.int .i64 8, .int .i64 x] w fun e w' => e = .returned (.int .i64 (rSquash 8 x)) ∧ Grown w w' := by
  have a0 := rOf_lo x
  have a1 := rOf_hi x
  go_enter Tryd.func22, Tryd.ntmps22
  go_wp2_with (go_at_call 28; refine (width_yes _ _ (by omega) (by omega)).mono ?_; rintro e w' ⟨rfl, rfl⟩)
  go_quiet ((first | (go_at_call 10; exact quiet_eq (of_any _ _)) | (go_at_call 29; exact quiet_eq (lowest8 _))))
  go_wp2
  go_ret
  exact ⟨ret_int (and255 _), grown_drewN (Grown.refl _) _⟩

set_option maxHeartbeats 400000 in
theorem stretch8 (y : Int) (w : World) :
    Calls Tryd.prog 24 #[.int .i64 8, .int .i64 y] w fun e w' => e = .returned (.int .i64 (rStretch 8 y)) ∧ Grown w w' := by
  have he : bits BinOp.and IntKind.i64 y 255 = y % 256 := and255 y
  go_enter Tryd.func24, Tryd.ntmps24
  go_wp2_with (go_at_call 28; refine (width_yes _ _ (by omega) (by omega)).mono ?_; rintro e w' ⟨rfl, rfl⟩)
  go_quiet ((go_at_call 29; exact quiet_eq (lowest8 _)))
  go_wp2
  go_ret
  exact ⟨ret_int (rStretch_8 y).symm, grown_drewN (Grown.refl _) _⟩

set_option maxHeartbeats 400000 in
theorem refSquash8 (x : Int) (w : World) :
    Calls Tryd.prog 23 #[.int .i64 8, .int .i64 x] w fun e w' => e = .returned (.int .i64 (rSquash 8 x)) ∧ Grown w w' := by
  have a0 := rOf_lo x
  have a1 := rOf_hi x
  go_enter Tryd.func23, Tryd.ntmps23
  go_wp2
  go_quiet ((go_at_call 11; exact quiet_eq (refOf_any _ _)))
  go_wp2
  go_ret
  exact ⟨ret_int (refSquash_8 x), grown_drewN (Grown.refl _) _⟩

set_option maxHeartbeats 400000 in
theorem refStretch8 (y : Int) (w : World) :
    Calls Tryd.prog 25 #[.int .i64 8, .int .i64 y] w fun e w' => e = .returned (.int .i64 (rStretch 8 y)) ∧ Grown w w' := by
  have he : bits BinOp.and IntKind.i64 y 255 = y % 256 := and255 y
  go_enter Tryd.func25, Tryd.ntmps25
  go_wp2
  go_quiet (fail)
  go_wp2
  go_ret
  exact ⟨ret_int (refStretch_8 y), grown_drewN (Grown.refl _) _⟩

set_option maxHeartbeats 400000 in
theorem lowest9 (w : World) :
    Calls Tryd.prog 29 #[.int .i64 9] w fun e w' => e = .returned (.int .i64 511) ∧ w = w' := by
  go_enter Tryd.func29, Tryd.ntmps29
  go_wp2
  go_ret
  exact ⟨rfl, rfl⟩

set_option maxHeartbeats 400000 in
theorem squash9 (x : Int) (w : World) :
    Calls Tryd.prog 22 #[.int .i64 9, .int .i64 x] w fun e w' => e = .returned (.int .i64 (rSquash 9 x)) ∧ Grown w w' := by
  have a0 := rOf_lo x
  have a1 := rOf_hi x
  go_enter Tryd.func22, Tryd.ntmps22
  go_wp2_with (go_at_call 28; refine (width_yes _ _ (by omega) (by omega)).mono ?_; rintro e w' ⟨rfl, rfl⟩)
  go_quiet ((first | (go_at_call 10; exact quiet_eq (of_any _ _)) | (go_at_call 29; exact quiet_eq (lowest9 _))))
  go_wp2
  go_ret
  exact ⟨ret_int (and511 _), grown_drewN (Grown.refl _) _⟩

set_option maxHeartbeats 400000 in
theorem stretch9 (y : Int) (w : World) :
    Calls Tryd.prog 24 #[.int .i64 9, .int .i64 y] w fun e w' => e = .returned (.int .i64 (rStretch 9 y)) ∧ Grown w w' := by
  have he : bits BinOp.and IntKind.i64 y 511 = y % 512 := and511 y
  go_enter Tryd.func24, Tryd.ntmps24
  go_wp2_with (go_at_call 28; refine (width_yes _ _ (by omega) (by omega)).mono ?_; rintro e w' ⟨rfl, rfl⟩)
  go_quiet ((go_at_call 29; exact quiet_eq (lowest9 _)))
  go_wp2
  go_ret
  exact ⟨ret_int (rStretch_9 y).symm, grown_drewN (Grown.refl _) _⟩

set_option maxHeartbeats 400000 in
theorem refSquash9 (x : Int) (w : World) :
    Calls Tryd.prog 23 #[.int .i64 9, .int .i64 x] w fun e w' => e = .returned (.int .i64 (rSquash 9 x)) ∧ Grown w w' := by
  have a0 := rOf_lo x
  have a1 := rOf_hi x
  go_enter Tryd.func23, Tryd.ntmps23
  go_wp2
  go_quiet ((go_at_call 11; exact quiet_eq (refOf_any _ _)))
  go_wp2
  go_ret
  exact ⟨ret_int (refSquash_9 x), grown_drewN (Grown.refl _) _⟩

set_option maxHeartbeats 400000 in
theorem refStretch9 (y : Int) (w : World) :
    Calls Tryd.prog 25 #[.int .i64 9, .int .i64 y] w fun e w' => e = .returned (.int .i64 (rStretch 9 y)) ∧ Grown w w' := by
  have he : bits BinOp.and IntKind.i64 y 511 = y % 512 := and511 y
  go_enter Tryd.func25, Tryd.ntmps25
  go_wp2
  go_quiet (fail)
  go_wp2
  go_ret
  exact ⟨ret_int (refStretch_9 y), grown_drewN (Grown.refl _) _⟩

set_option maxHeartbeats 400000 in
theorem lowest10 (w : World) :
    Calls Tryd.prog 29 #[.int .i64 10] w fun e w' => e = .returned (.int .i64 1023) ∧ w = w' := by
  go_enter Tryd.func29, Tryd.ntmps29
  go_wp2
  go_ret
  exact ⟨rfl, rfl⟩

set_option maxHeartbeats 400000 in
theorem squash10 (x : Int) (w : World) :
    Calls Tryd.prog 22 #[.int .i64 10, .int .i64 x] w fun e w' => e = .returned (.int .i64 (rSquash 10 x)) ∧ Grown w w' := by
  have a0 := rOf_lo x
  have a1 := rOf_hi x
  go_enter Tryd.func22, Tryd.ntmps22
  go_wp2_with (go_at_call 28; refine (width_yes _ _ (by omega) (by omega)).mono ?_; rintro e w' ⟨rfl, rfl⟩)
  go_quiet ((first | (go_at_call 10; exact quiet_eq (of_any _ _)) | (go_at_call 29; exact quiet_eq (lowest10 _))))
  go_wp2
  go_ret
  exact ⟨ret_int (and1023 _), grown_drewN (Grown.refl _) _⟩

set_option maxHeartbeats 400000 in
theorem stretch10 (y : Int) (w : World) :
    Calls Tryd.prog 24 #[.int .i64 10, .int .i64 y] w fun e w' => e = .returned (.int .i64 (rStretch 10 y)) ∧ Grown w w' := by
  have he : bits BinOp.and IntKind.i64 y 1023 = y % 1024 := and1023 y
  go_enter Tryd.func24, Tryd.ntmps24
  go_wp2_with (go_at_call 28; refine (width_yes _ _ (by omega) (by omega)).mono ?_; rintro e w' ⟨rfl, rfl⟩)
  go_quiet ((go_at_call 29; exact quiet_eq (lowest10 _)))
  go_wp2
  go_ret
  exact ⟨ret_int (rStretch_10 y).symm, grown_drewN (Grown.refl _) _⟩

set_option maxHeartbeats 400000 in
theorem refSquash10 (x : Int) (w : World) :
    Calls Tryd.prog 23 #[.int .i64 10, .int .i64 x] w fun e w' => e = .returned (.int .i64 (rSquash 10 x)) ∧ Grown w w' := by
  have a0 := rOf_lo x
  have a1 := rOf_hi x
  go_enter Tryd.func23, Tryd.ntmps23
  go_wp2
  go_quiet ((go_at_call 11; exact quiet_eq (refOf_any _ _)))
  go_wp2
  go_ret
  exact ⟨ret_int (refSquash_10 x), grown_drewN (Grown.refl _) _⟩

set_option maxHeartbeats 400000 in
theorem refStretch10 (y : Int) (w : World) :
    Calls Tryd.prog 25 #[.int .i64 10, .int .i64 y] w fun e w' => e = .returned (.int .i64 (rStretch 10 y)) ∧ Grown w w' := by
  have he : bits BinOp.and IntKind.i64 y 1023 = y % 1024 := and1023 y
  go_enter Tryd.func25, Tryd.ntmps25
  go_wp2
  go_quiet (fail)
  go_wp2
  go_ret
  exact ⟨ret_int (refStretch_10 y), grown_drewN (Grown.refl _) _⟩

set_option maxHeartbeats 400000 in
theorem lowest11 (w : World) :
    Calls Tryd.prog 29 #[.int .i64 11] w fun e w' => e = .returned (.int .i64 2047) ∧ w = w' := by
  go_enter Tryd.func29, Tryd.ntmps29
  go_wp2
  go_ret
  exact ⟨rfl, rfl⟩

set_option maxHeartbeats 400000 in
theorem squash11 (x : Int) (w : World) :
    Calls Tryd.prog 22 #[.int .i64 11, .int .i64 x] w fun e w' => e = .returned (.int .i64 (rSquash 11 x)) ∧ Grown w w' := by
  have a0 := rOf_lo x
  have a1 := rOf_hi x
  go_enter Tryd.func22, Tryd.ntmps22
  go_wp2_with (go_at_call 28; refine (width_yes _ _ (by omega) (by omega)).mono ?_; rintro e w' ⟨rfl, rfl⟩)
  go_quiet ((first | (go_at_call 10; exact quiet_eq (of_any _ _)) | (go_at_call 29; exact quiet_eq (lowest11 _))))
  go_wp2
  go_ret
  exact ⟨ret_int (and2047 _), grown_drewN (Grown.refl _) _⟩

set_option maxHeartbeats 400000 in
theorem stretch11 (y : Int) (w : World) :
    Calls Tryd.prog 24 #[.int .i64 11, .int .i64 y] w fun e w' => e = .returned (.int .i64 (rStretch 11 y)) ∧ Grown w w' := by
  have he : bits BinOp.and IntKind.i64 y 2047 = y % 2048 := and2047 y
  go_enter Tryd.func24, Tryd.ntmps24
  go_wp2_with (go_at_call 28; refine (width_yes _ _ (by omega) (by omega)).mono ?_; rintro e w' ⟨rfl, rfl⟩)
  go_quiet ((go_at_call 29; exact quiet_eq (lowest11 _)))
  go_wp2
  go_ret
  exact ⟨ret_int (rStretch_11 y).symm, grown_drewN (Grown.refl _) _⟩

set_option maxHeartbeats 400000 in
theorem refSquash11 (x : Int) (w : World) :
    Calls Tryd.prog 23 #[.int .i64 11, .int .i64 x] w fun e w' => e = .returned (.int .i64 (rSquash 11 x)) ∧ Grown w w' := by
  have a0 := rOf_lo x
  have a1 := rOf_hi x
  go_enter Tryd.func23, Tryd.ntmps23
  go_wp2
  go_quiet ((go_at_call 11; exact quiet_eq (refOf_any _ _)))
  go_wp2
  go_ret
  exact ⟨ret_int (refSquash_11 x), grown_drewN (Grown.refl _) _⟩

set_option maxHeartbeats 400000 in
theorem refStretch11 (y : Int) (w : World) :
    Calls Tryd.prog 25 #[.int .i64 11, .int .i64 y] w fun e w' => e = .returned (.int .i64 (rStretch 11 y)) ∧ Grown w w' := by
  have he : bits BinOp.and IntKind.i64 y 2047 = y % 2048 := and2047 y
  go_enter Tryd.func25, Tryd.ntmps25
  go_wp2
  go_quiet (fail)
  go_wp2
  go_ret
  exact ⟨ret_int (refStretch_11 y), grown_drewN (Grown.refl _) _⟩

set_option maxHeartbeats 400000 in
theorem squashNo (d x : Int) (w : World) (h : d < 1 ∨ 11 < d) :
    Calls Tryd.prog 22 #[.int .i64 d, .int .i64 x] w fun e w' => e = .returned (.int .i64 (rSquash d x)) ∧ Grown w w' := by
  have hr := Lib.hid (rSquash_no d x h)
  have HH := Lib.hid h
  clear h
  go_enter Tryd.func22, Tryd.ntmps22
  go_wp2_with (go_at_call 28; refine (width_no _ _ HH.out).mono ?_; rintro e w' ⟨rfl, rfl⟩)
  go_ret
  exact ⟨ret_int hr.out.symm, Grown.refl _⟩
theorem squash_any (d x : Int) (w : World) :
    Calls Tryd.prog 22 #[.int .i64 d, .int .i64 x] w fun e w' => e = .returned (.int .i64 (rSquash d x)) ∧ Grown w w' := by
  by_cases h : d < 1 ∨ 11 < d
  · exact squashNo d x w h
  · have hd : d = 1 ∨ d = 2 ∨ d = 3 ∨ d = 4 ∨ d = 5 ∨ d = 6 ∨ d = 7 ∨ d = 8 ∨ d = 9 ∨ d = 10 ∨ d = 11 := by omega
    rcases hd with rfl | rfl | rfl | rfl | rfl | rfl | rfl | rfl | rfl | rfl | rfl
    · exact squash1 x w
    · exact squash2 x w
    · exact squash3 x w
    · exact squash4 x w
    · exact squash5 x w
    · exact squash6 x w
    · exact squash7 x w
    · exact squash8 x w
    · exact squash9 x w
    · exact squash10 x w
    · exact squash11 x w

set_option maxHeartbeats 400000 in
theorem stretchNo (d x : Int) (w : World) (h : d < 1 ∨ 11 < d) :
    Calls Tryd.prog 24 #[.int .i64 d, .int .i64 x] w fun e w' => e = .returned (.int .i64 (rStretch d x)) ∧ Grown w w' := by
  have hr := Lib.hid (rStretch_no d x h)
  have HH := Lib.hid h
  clear h
  go_enter Tryd.func24, Tryd.ntmps24
  go_wp2_with (go_at_call 28; refine (width_no _ _ HH.out).mono ?_; rintro e w' ⟨rfl, rfl⟩)
  go_ret
  exact ⟨ret_int hr.out.symm, Grown.refl _⟩
theorem stretch_any (d x : Int) (w : World) :
    Calls Tryd.prog 24 #[.int .i64 d, .int .i64 x] w fun e w' => e = .returned (.int .i64 (rStretch d x)) ∧ Grown w w' := by
  by_cases h : d < 1 ∨ 11 < d
  · exact stretchNo d x w h
  · have hd : d = 1 ∨ d = 2 ∨ d = 3 ∨ d = 4 ∨ d = 5 ∨ d = 6 ∨ d = 7 ∨ d = 8 ∨ d = 9 ∨ d = 10 ∨ d = 11 := by omega
    rcases hd with rfl | rfl | rfl | rfl | rfl | rfl | rfl | rfl | rfl | rfl | rfl
    · exact stretch1 x w
    · exact stretch2 x w
    · exact stretch3 x w
    · exact stretch4 x w
    · exact stretch5 x w
    · exact stretch6 x w
    · exact stretch7 x w
    · exact stretch8 x w
    · exact stretch9 x w
    · exact stretch10 x w
    · exact stretch11 x w

set_option maxHeartbeats 400000 in
theorem refSquashNo (d x : Int) (w : World) (h : d < 1 ∨ 11 < d) :
    Calls Tryd.prog 23 #[.int .i64 d, .int .i64 x] w fun e w' => e = .returned (.int .i64 (rSquash d x)) ∧ Grown w w' := by
  have hr := Lib.hid (rSquash_no d x h)
  by_cases h0 : d < 1
  · clear h
    go_enter Tryd.func23, Tryd.ntmps23
    go_wp2
    go_ret
    exact ⟨ret_int hr.out.symm, Grown.refl _⟩
  · have h1 : 11 < d := by omega
    clear h
    go_enter Tryd.func23, Tryd.ntmps23
    go_wp2
    go_ret
    exact ⟨ret_int hr.out.symm, Grown.refl _⟩
theorem refSquash_any (d x : Int) (w : World) :
    Calls Tryd.prog 23 #[.int .i64 d, .int .i64 x] w fun e w' => e = .returned (.int .i64 (rSquash d x)) ∧ Grown w w' := by
  by_cases h : d < 1 ∨ 11 < d
  · exact refSquashNo d x w h
  · have hd : d = 1 ∨ d = 2 ∨ d = 3 ∨ d = 4 ∨ d = 5 ∨ d = 6 ∨ d = 7 ∨ d = 8 ∨ d = 9 ∨ d = 10 ∨ d = 11 := by omega
    rcases hd with rfl | rfl | rfl | rfl | rfl | rfl | rfl | rfl | rfl | rfl | rfl
    · exact refSquash1 x w
    · exact refSquash2 x w
    · exact refSquash3 x w
    · exact refSquash4 x w
    · exact refSquash5 x w
    · exact refSquash6 x w
    · exact refSquash7 x w
    · exact refSquash8 x w
    · exact refSquash9 x w
    · exact refSquash10 x w
    · exact refSquash11 x w

set_option maxHeartbeats 400000 in
theorem refStretchNo (d x : Int) (w : World) (h : d < 1 ∨ 11 < d) :
    Calls Tryd.prog 25 #[.int .i64 d, .int .i64 x] w fun e w' => e = .returned (.int .i64 (rStretch d x)) ∧ Grown w w' := by
  have hr := Lib.hid (rStretch_no d x h)
  by_cases h0 : d < 1
  · clear h
    go_enter Tryd.func25, Tryd.ntmps25
    go_wp2
    go_ret
    exact ⟨ret_int hr.out.symm, Grown.refl _⟩
  · have h1 : 11 < d := by omega
    clear h
    go_enter Tryd.func25, Tryd.ntmps25
    go_wp2
    go_ret
    exact ⟨ret_int hr.out.symm, Grown.refl _⟩
theorem refStretch_any (d x : Int) (w : World) :
    Calls Tryd.prog 25 #[.int .i64 d, .int .i64 x] w fun e w' => e = .returned (.int .i64 (rStretch d x)) ∧ Grown w w' := by
  by_cases h : d < 1 ∨ 11 < d
  · exact refStretchNo d x w h
  · have hd : d = 1 ∨ d = 2 ∨ d = 3 ∨ d = 4 ∨ d = 5 ∨ d = 6 ∨ d = 7 ∨ d = 8 ∨ d = 9 ∨ d = 10 ∨ d = 11 := by omega
    rcases hd with rfl | rfl | rfl | rfl | rfl | rfl | rfl | rfl | rfl | rfl | rfl
    · exact refStretch1 x w
    · exact refStretch2 x w
    · exact refStretch3 x w
    · exact refStretch4 x w
    · exact refStretch5 x w
    · exact refStretch6 x w
    · exact refStretch7 x w
    · exact refStretch8 x w
    · exact refStretch9 x w
    · exact refStretch10 x w
    · exact refStretch11 x w

end Go.Proofs.YtlaejnbkgikfcaaDoor
