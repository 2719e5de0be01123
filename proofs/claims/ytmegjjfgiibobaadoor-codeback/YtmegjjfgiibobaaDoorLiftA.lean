/- The row's step for questions, whole numbers and texts: what they read as, where they lie. -/
import Derived.Test.YtmegjjfgiibobaaDoorLift
import Derived.ChangeMaps5
import Derived.Deep.Slices
import Derived.ChangeArms
namespace Go.Proofs.YtmegjjfgiibobaaDoor
open Go.ChangeShapes Go.WideShapes Go.ChangeAt Go.RowKit Slices Go.Proofs.YtmegjjfgiibobaaDoor.Bit

theorem int_wf {n : Int} (h : (Lit.int .i64 n).wf = true) : I64 n := by
  unfold I64
  simp [Lit.wf, IntKind.min, IntKind.max, IntKind.signed, IntKind.bits] at h
  omega
theorem Tryd.cellsAct : Tryd.prog.cellsOf 39 = 3 := by kernel_rfl
theorem Tryd.bytesAct : Tryd.prog.bytesOf 39 = 24 := by kernel_rfl
/-- a list of questions that is handed in -/
theorem viewA {H : Type} {enc : TypeId × Value → H} {W : World} {fuel : Nat} {A : Option Addr} {n c : Nat} {d : DataW H} {p : List MemPlace}
    (h : DataW.trod enc Tryd.prog W 0 (fun _ => true) true fuel 32 (Value.slice A n c).cells.toList = some (d, p)) :
    ∃ qs : List (Int × Int × Int), qs.length = n ∧ n ≤ c ∧ (A = none → n = 0 ∧ c = 0) ∧ HasA W W.heap.size A qs ∧ (d = .nil ∧ n = 0 ∨ ∃ ds sp, d = .slice ds sp ∧ ds.length = n) := by
  rcases Go.Deep.open_slice Tryd.underlying32 h with ⟨hcs, hx⟩ | ⟨a, len, cap, m, n', D, Pl, hcs, _, hl, _, hm, hx, hr⟩
  · simp [Value.cells] at hcs
    obtain ⟨rfl, rfl, rfl⟩ := hcs
    simp only [Prod.mk.injEq] at hx
    exact ⟨[], rfl, Nat.le_refl _, fun _ => ⟨rfl, rfl⟩, fun k hk => by (cases hk), .inl ⟨hx.1, rfl⟩⟩
  · simp [Value.cells] at hcs
    obtain ⟨rfl, rfl, rfl⟩ := hcs
    simp only [Prod.mk.injEq] at hx
    have hm' : m = c := by simpa using hm
    have one : ∀ i, ∃ t : Int × Int × Int, i < n → W.cell? (a.add (i * 3)) = some (.int .i64 t.1) ∧ W.cell? (a.add (i * 3 + 1)) = some (.int .i64 t.2.1) ∧ W.cell? (a.add (i * 3 + 2)) = some (.int .i64 t.2.2) := fun i => by
      by_cases hi : i < n
      · obtain ⟨cs, hc, ht⟩ := hr i (by omega)
        rw [Tryd.cellsAct] at hc
        obtain ⟨xs, k, _, _, hcl, hxl, hf⟩ := DataW.trod_struct Tryd.underlying39 ht
        rw [Tryd.cellsAct] at hcl
        obtain ⟨_, _, hat⟩ := World.cells?_some hc
        have get : ∀ (j : Nat) (f : Field), (#[{ name := "Do", type := 3, offset := 0, embedded := false, tag := "", pkgPath := "", byteOffset := 0 }, { name := "Lo", type := 3, offset := 1, embedded := false, tag := "", pkgPath := "", byteOffset := 8 }, { name := "Hi", type := 3, offset := 2, embedded := false, tag := "", pkgPath := "", byteOffset := 16 }] : Array Field)[j]? = some f → f.type = 3 → f.offset = j → j < 3 → ∃ z : Int, W.cell? (a.add (i * 3 + j)) = some (.int .i64 z) := fun j f h1 h2 h3 h4 => by
          have h5 := hf j f h1
          rw [h2, h3, Tryd.cells3] at h5
          have h6 : j < xs.length := by rw [hxl]; exact h4
          rw [List.getElem?_eq_getElem h6] at h5
          obtain ⟨z, hz, _, _⟩ := DataW.trod_int Tryd.underlying3 h5
          have h7 : cs[j]? = some (.int .i64 z) := by
            have h8 : j < cs.length := by omega
            rw [List.drop_eq_getElem_cons h8, List.take_succ_cons, List.take_zero] at hz
            injection hz with hz _
            rw [List.getElem?_eq_getElem h8, hz]
          refine ⟨z, ?_⟩
          rw [← add_add14, hat j h4, h7]
        obtain ⟨z0, e0⟩ := get 0 _ rfl rfl rfl (by omega)
        obtain ⟨z1, e1⟩ := get 1 _ rfl rfl rfl (by omega)
        obtain ⟨z2, e2⟩ := get 2 _ rfl rfl rfl (by omega)
        exact ⟨(z0, z1, z2), fun _ => ⟨e0, e1, e2⟩⟩
      · exact ⟨(0, 0, 0), fun h => absurd h hi⟩
    obtain ⟨f, hf⟩ := Classical.axiomOfChoice one
    have hlen : ((List.range n).map f).length = n := by simp
    refine ⟨(List.range n).map f, hlen, hl, fun e => by (cases e), fun k hk => ?_, .inr ⟨_, _, hx.1, by simp⟩⟩
    have hk' : k < n := by rw [hlen] at hk; exact hk
    have e : ((List.range n).map f)[k] = f k := by simp
    rw [e]
    obtain ⟨q0, q1, q2⟩ := hf k hk'
    exact ⟨a, rfl, by have := lt_of_cell q0; rwa [add_block] at this, q0, q1, q2⟩
end Go.Proofs.YtmegjjfgiibobaaDoor
