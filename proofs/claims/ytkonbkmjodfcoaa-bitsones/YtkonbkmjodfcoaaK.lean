/- Contract: what every program answers that is one. -/
import Derived.Test.YtkonbkmjodfcoaaJ
namespace Go.Proofs.Ytkonbkmjodfcoaa
open Go.RowKit Slices Go.Proofs.Ytkonbkmjodfcoaa.Bit

theorem pack_awake : packI 4 [1, 2, 3] = [33, 3] := by
  have hf : Fit 4 [1, 2, 3] := fun i hi => by
    have : i = 0 ∨ i = 1 ∨ i = 2 := by simp at hi; omega
    rcases this with rfl | rfl | rfl <;> decide
  have := packI_yes (d := 4) (by omega) (by omega) hf
  exact this.trans (by decide)
theorem unpack_awake : unpackI 4 [33, 3] = [1, 2, 3, 0] := by decide
theorem turn_awake : turnI 7 1 = 64 := by decide
theorem low_awake : lowI 3 13 = 5 := by decide
theorem fit_awake : Fit 8 [33, 3] := fun i hi => by
  have : i = 0 ∨ i = 1 := by simp at hi; omega
  rcases this with rfl | rfl <;> decide
/-- a slice that was just built reads as what it was built of -/
theorem built_has {κ : IntKind} (w : World) (t : TypeId) (l : List Int) : Has κ (w.alloc (.cells (ints κ l).toArray t (0, 0))) (w.heap.size + 1) (some ⟨w.heap.size, 0, none⟩) l := fun k hk => by
  refine ⟨_, rfl, Nat.lt_succ_self _, ?_⟩
  exact World.news_of_block (heap_alloc_new w _) k _ (by rw [List.toList_toArray]; exact ints_at hk)
theorem below_alloc (w : World) (o : Obj) : Below w.heap.size w (w.alloc o) := (Below.refl _ w).alloc (Nat.le_refl _) _

set_option maxRecDepth 100000 in
set_option maxHeartbeats 1000000 in
theorem awake_any (w : World) :
    Calls Try.prog 8 #[] w fun e w' => e = .returned (.bool true) ∧ Below w.heap.size w w' := by
  go_enter Try.func8, Try.ntmps8
  go_wp2_with fail
  have h1 : Has .i64 (w.alloc (.cells #[.int .i64 1, .int .i64 2, .int .i64 3] 3 (0, 0))) (w.heap.size + 1) (some ⟨w.heap.size, 0, none⟩) [1, 2, 3] := built_has w 3 [1, 2, 3]
  have b1 := below_alloc w (.cells #[.int .i64 1, .int .i64 2, .int .i64 3] 3 (0, 0))
  have s1 : (w.alloc (.cells #[.int .i64 1, .int .i64 2, .int .i64 3] 3 (0, 0))).heap.size = w.heap.size + 1 := by simp
  generalize w.alloc (.cells #[.int .i64 1, .int .i64 2, .int .i64 3] 3 (0, 0)) = wa at h1 b1 s1
  rw [← s1] at h1
  have H1 := Lib.hid h1
  have B1 := Lib.hid b1
  clear h1 b1 s1
  refine (pack_any 4 _ 3 3 [1, 2, 3] wa rfl H1.out (by decide)).mono ?_
  rw [pack_awake]
  rintro e w2 ⟨A2, c2, rfl, ho, hb⟩
  have H2 := Lib.hid (own_read ho)
  have B2 := Lib.hid (below_next B1.out hb)
  clear ho hb H1 B1
  go_wp2_with fail
  have h3 : Has .u8 (w2.alloc (.cells #[.int .u8 33, .int .u8 3] 5 (0, 0))) (w2.heap.size + 1) (some ⟨w2.heap.size, 0, none⟩) [33, 3] := built_has w2 5 [33, 3]
  have b3 := below_alloc w2 (.cells #[.int .u8 33, .int .u8 3] 5 (0, 0))
  have s3 : (w2.alloc (.cells #[.int .u8 33, .int .u8 3] 5 (0, 0))).heap.size = w2.heap.size + 1 := by simp
  generalize w2.alloc (.cells #[.int .u8 33, .int .u8 3] 5 (0, 0)) = wb at h3 b3 s3
  rw [← s3] at h3
  have H3 := Lib.hid h3
  have H2b := Lib.hid (has_next H2.out b3)
  have B3 := Lib.hid (below_next B2.out b3)
  clear h3 b3 s3 H2 B2
  refine (sameB_eq _ _ _ _ _ _ [33, 3] [33, 3] wb rfl rfl rfl (by decide) H2b.out H3.out).mono ?_
  rintro e w4 ⟨rfl, hb⟩
  have B4 := Lib.hid (below_next B3.out hb)
  clear hb H2b H3 B3
  go_wp2_with fail
  refine (turn_any 7 1 w4).mono ?_
  rw [turn_awake]
  rintro e w' ⟨rfl, rfl⟩
  go_wp2_with fail
  refine (low_any 3 13 w4).mono ?_
  rw [low_awake]
  rintro e w' ⟨rfl, rfl⟩
  go_wp2_with fail
  have h5 : Has .u8 (w4.alloc (.cells #[.int .u8 33, .int .u8 3] 5 (0, 0))) (w4.heap.size + 1) (some ⟨w4.heap.size, 0, none⟩) [33, 3] := built_has w4 5 [33, 3]
  have b5 := below_alloc w4 (.cells #[.int .u8 33, .int .u8 3] 5 (0, 0))
  have s5 : (w4.alloc (.cells #[.int .u8 33, .int .u8 3] 5 (0, 0))).heap.size = w4.heap.size + 1 := by simp
  generalize w4.alloc (.cells #[.int .u8 33, .int .u8 3] 5 (0, 0)) = wc at h5 b5 s5
  rw [← s5] at h5
  have H5 := Lib.hid h5
  have B5 := Lib.hid (below_next B4.out b5)
  clear h5 b5 s5 B4
  refine (unpack_any 4 _ _ 2 [33, 3] wc rfl H5.out (by decide) fit_awake).mono ?_
  rw [unpack_awake]
  rintro e w6 ⟨A6, c6, rfl, ho, hb⟩
  have H6 := Lib.hid (own_read ho)
  have B6 := Lib.hid (below_next B5.out hb)
  clear ho hb H5 B5
  go_wp2_with fail
  have h7 : Has .i64 (w6.alloc (.cells #[.int .i64 1, .int .i64 2, .int .i64 3, .int .i64 0] 3 (0, 0))) (w6.heap.size + 1) (some ⟨w6.heap.size, 0, none⟩) [1, 2, 3, 0] := built_has w6 3 [1, 2, 3, 0]
  have b7 := below_alloc w6 (.cells #[.int .i64 1, .int .i64 2, .int .i64 3, .int .i64 0] 3 (0, 0))
  have s7 : (w6.alloc (.cells #[.int .i64 1, .int .i64 2, .int .i64 3, .int .i64 0] 3 (0, 0))).heap.size = w6.heap.size + 1 := by simp
  generalize w6.alloc (.cells #[.int .i64 1, .int .i64 2, .int .i64 3, .int .i64 0] 3 (0, 0)) = wd at h7 b7 s7
  rw [← s7] at h7
  have H7 := Lib.hid h7
  have H6b := Lib.hid (has_next H6.out b7)
  have B7 := Lib.hid (below_next B6.out b7)
  clear h7 b7 s7 H6 B6
  refine (same_eq _ _ _ _ _ _ [1, 2, 3, 0] [1, 2, 3, 0] wd rfl rfl rfl (by decide) H6b.out H7.out).mono ?_
  rintro e w8 ⟨rfl, hb⟩
  have B8 := Lib.hid (below_next B7.out hb)
  clear hb H6b H7 B7
  go_wp2
  go_ret
  exact ⟨rfl, B8.out⟩
end Go.Proofs.Ytkonbkmjodfcoaa
