/- Several texts in one: Ej, Ek, El, Em. -/
import Derived.Test.YtidpihpddkfhgaaDoorEi
/- Contracts: errors.As and errors.Is at a Fault that is wrapped twice. -/
namespace Go.Proofs.YtidpihpddkfhgaaDoor
open Go.RowKit Go.Extern.Stop Go.Stop Go.Extern

set_option maxRecDepth 100000 in
set_option maxHeartbeats 4000000 in
theorem as_fault_ww (q2 q : Nat) (e t : Addr) (old : Value) (w : World) (hg : Han w) (hq2 : w.cell? ⟨q2, 1, none⟩ = some (.iface 76 (.pointer (some ⟨q, 0, none⟩)))) (hq : w.cell? ⟨q, 1, none⟩ = some (.iface 49 (.pointer (some e)))) (ht0 : w.cell? t = some old) (hf0 : w.frozen? t = false) :
    Calls Tryd.prog 27 #[.iface 76 (.pointer (some ⟨q2, 0, none⟩)), .iface 51 (.pointer (some t))] w fun ev w' => ev = .returned (.bool true) ∧ w' = ((((w.alloc (.cells #[.pointer (some t)] 51)).alloc (.cells #[.pointer (some ⟨1, 51, none⟩), .pointer (some ⟨w.heap.size, 0, none⟩), .int .u64 150] 82)).alloc (.cells #[.pointer (some ⟨1, 51, none⟩), .pointer (some ⟨w.heap.size, 0, none⟩), .int .u64 150] 82)).alloc (.cells #[.pointer (some e)] 49)).setCell t (.pointer (some e)) := by
  have h6 := @run_callFunc_extern Tryd.prog 47 _ (fun args => ReflectliteValue.unpack (args.getD 0 (.tuple #[]))) Tryd.func47 (by kernel_rfl) (by kernel_rfl) (by kernel_rfl) (by kernel_rfl)
  have h7 := @run_callFunc_extern Tryd.prog 48 _ (ReflectliteValue.methodAny (ReflectliteValue.valueError "reflectlite.Value.Type" 0) (fun t _ _ _ => ReflectliteType.toType t)) Tryd.func48 (by kernel_rfl) (by kernel_rfl) (by kernel_rfl) (by kernel_rfl)
  have h8 := @run_callFunc_extern Tryd.prog 49 _ (ReflectliteValue.method (ReflectliteValue.valueError "reflectlite.Value.IsNil" 0) ReflectliteValue.isNil) Tryd.func49 (by kernel_rfl) (by kernel_rfl) (by kernel_rfl) (by kernel_rfl)
  have h27 := @run_callFunc_extern Tryd.prog 92 _ (ReflectliteType.abiMethod fun t => do pure (.int .u8 (← Rtype.kind t))) Tryd.func92 (by kernel_rfl) (by kernel_rfl) (by kernel_rfl) (by kernel_rfl)
  have h37 := @run_callFunc_extern Tryd.prog 106 _ (ReflectliteType.method ReflectliteType.elem) Tryd.func106 (by kernel_rfl) (by kernel_rfl) (by kernel_rfl) (by kernel_rfl)
  have h38 := @run_callFunc_extern Tryd.prog 107 _ (ReflectliteType.relation "Implements" ReflectliteType.implements_) Tryd.func107 (by kernel_rfl) (by kernel_rfl) (by kernel_rfl) (by kernel_rfl)
  have h10 := @run_callFunc_extern Tryd.prog 51 _ ReflectliteType.typeOf Tryd.func51 (by kernel_rfl) (by kernel_rfl) (by kernel_rfl) (by kernel_rfl)
  have h35 := @run_callFunc_extern Tryd.prog 104 _ (ReflectliteType.relation "AssignableTo" ReflectliteType.assignableTo) Tryd.func104 (by kernel_rfl) (by kernel_rfl) (by kernel_rfl) (by kernel_rfl)
  have h11 := @run_callFunc_extern Tryd.prog 65 _ (ReflectliteValue.method (ReflectliteValue.valueError "reflectlite.Value.Elem" 0) ReflectliteValue.elem) Tryd.func65 (by kernel_rfl) (by kernel_rfl) (by kernel_rfl) (by kernel_rfl)
  have h12 := @run_callFunc_extern Tryd.prog 66 _ ReflectliteValue.set Tryd.func66 (by kernel_rfl) (by kernel_rfl) (by kernel_rfl) (by kernel_rfl)
  have tO := Tryd.typeOfPF
  have tW := Tryd.typeOfPW
  have aW := Tryd.assignW1
  have nW := Tryd.noAsW
  have uW := Tryd.unwrapW
  have mW := Tryd.methodUnwrapW
  have mA := Tryd.methodAssignableTo
  have a25 := Tryd.assignPF
  have v25 := Tryd.valueOfPF
  have f6 := Tryd.valueOfPPF
  have f7 := Tryd.typePPF
  have mK := Tryd.methodKind
  have mE := Tryd.methodElem
  have mI := Tryd.methodImplements
  have k27 := Tryd.kindPPF
  have k25 := Tryd.kindPF
  have e27 := Tryd.elemPPF
  have i25 := Tryd.implPF
  have n8 := Tryd.isNilPPF ⟨w.heap.size, 0, none⟩ t ((w.alloc (.cells #[.pointer (some t)] 51)).alloc (.cells #[.pointer (some ⟨1, 51, none⟩), .pointer (some ⟨w.heap.size, 0, none⟩), .int .u64 150] 82)) (by simp)
  have hg2 : ((w.alloc (.cells #[.pointer (some t)] 51)).alloc (.cells #[.pointer (some ⟨1, 51, none⟩), .pointer (some ⟨w.heap.size, 0, none⟩), .int .u64 150] 82)).cell? ⟨0, 0, none⟩ = some (.iface 112 (.agg #[.pointer (some ⟨1, 28, none⟩)])) := (hg.alloc _).alloc _
  have hq3 : (((w.alloc (.cells #[.pointer (some t)] 51)).alloc (.cells #[.pointer (some ⟨1, 51, none⟩), .pointer (some ⟨w.heap.size, 0, none⟩), .int .u64 150] 82)).alloc (.cells #[.pointer (some ⟨1, 51, none⟩), .pointer (some ⟨w.heap.size, 0, none⟩), .int .u64 150] 82)).cell? ⟨q, 1, none⟩ = some (.iface 49 (.pointer (some e))) := cell_alloc (cell_alloc (cell_alloc hq _) _) _
  have hq4 : (((w.alloc (.cells #[.pointer (some t)] 51)).alloc (.cells #[.pointer (some ⟨1, 51, none⟩), .pointer (some ⟨w.heap.size, 0, none⟩), .int .u64 150] 82)).alloc (.cells #[.pointer (some ⟨1, 51, none⟩), .pointer (some ⟨w.heap.size, 0, none⟩), .int .u64 150] 82)).cell? ⟨q2, 1, none⟩ = some (.iface 76 (.pointer (some ⟨q, 0, none⟩))) := cell_alloc (cell_alloc (cell_alloc hq2 _) _) _
  have el := Tryd.elemVPPF ⟨w.heap.size, 0, none⟩ t (((w.alloc (.cells #[.pointer (some t)] 51)).alloc (.cells #[.pointer (some ⟨1, 51, none⟩), .pointer (some ⟨w.heap.size, 0, none⟩), .int .u64 150] 82)).alloc (.cells #[.pointer (some ⟨1, 51, none⟩), .pointer (some ⟨w.heap.size, 0, none⟩), .int .u64 150] 82)) (by rw [World.cell?_alloc_lt _ _ ⟨w.heap.size, 0, none⟩ (by simp; omega)]; simp)
  have st := Tryd.setPF t ⟨w.heap.size + 1 + 1 + 1, 0, none⟩ e old ((((w.alloc (.cells #[.pointer (some t)] 51)).alloc (.cells #[.pointer (some ⟨1, 51, none⟩), .pointer (some ⟨w.heap.size, 0, none⟩), .int .u64 150] 82)).alloc (.cells #[.pointer (some ⟨1, 51, none⟩), .pointer (some ⟨w.heap.size, 0, none⟩), .int .u64 150] 82)).alloc (.cells #[.pointer (some e)] 49))
    (by rw [World.cell?_alloc_at _ _ _ _ (by simp)]; rfl)
    (cell_alloc (cell_alloc (cell_alloc (cell_alloc ht0 _) _) _) _)
    (frozen_alloc (cell_alloc (cell_alloc (cell_alloc ht0 _) _) _) (frozen_alloc (cell_alloc (cell_alloc ht0 _) _) (frozen_alloc (cell_alloc ht0 _) (frozen_alloc ht0 hf0 _) _) _) _)
  clear hg hq hq2
  go_enter Tryd.func27, Tryd.ntmps27
  go_wp2
  refine wp_loop_rounds 3 ?_
  rw [rounds_succ]
  go_wp2_with (go_at_call 99; refine (wrapped_unwrap q2 _ _ hq4).mono ?_; rintro ev w' ⟨rfl, rfl⟩)
  rw [rounds_succ]
  go_wp2_with (go_at_call 99; refine (wrapped_unwrap q _ _ hq3).mono ?_; rintro ev w' ⟨rfl, rfl⟩)
  rw [rounds_succ]
  go_wp2
  go_ret
  exact ⟨rfl, rfl⟩
end Go.Proofs.YtidpihpddkfhgaaDoor

/- Contracts: errors.As and errors.Is at a Fault that is wrapped twice. -/
namespace Go.Proofs.YtidpihpddkfhgaaDoor
open Go.RowKit Go.Extern.Stop Go.Stop Go.Extern

set_option maxRecDepth 100000 in
set_option maxHeartbeats 4000000 in
theorem as_errno_ww (q2 q : Nat) (e t : Addr) (c : Int) (old : Value) (w : World) (hg : Han w) (hq2 : w.cell? ⟨q2, 1, none⟩ = some (.iface 76 (.pointer (some ⟨q, 0, none⟩)))) (hq : w.cell? ⟨q, 1, none⟩ = some (.iface 49 (.pointer (some e)))) (he : w.cell? e = some (.int .i64 c)) (ht0 : w.cell? t = some old) (hf0 : w.frozen? t = false) :
    Calls Tryd.prog 27 #[.iface 76 (.pointer (some ⟨q2, 0, none⟩)), .iface 93 (.pointer (some t))] w fun ev w' => ev = .returned (.bool true) ∧ w' = ((((w.alloc (.cells #[.pointer (some t)] 93)).alloc (.cells #[.pointer (some ⟨1, 93, none⟩), .pointer (some ⟨w.heap.size, 0, none⟩), .int .u64 150] 82)).alloc (.cells #[.pointer (some ⟨1, 93, none⟩), .pointer (some ⟨w.heap.size, 0, none⟩), .int .u64 150] 82)).alloc (.cells #[.int .i64 c] 52)).setCell t (.int .i64 c) := by
  have h6 := @run_callFunc_extern Tryd.prog 47 _ (fun args => ReflectliteValue.unpack (args.getD 0 (.tuple #[]))) Tryd.func47 (by kernel_rfl) (by kernel_rfl) (by kernel_rfl) (by kernel_rfl)
  have h7 := @run_callFunc_extern Tryd.prog 48 _ (ReflectliteValue.methodAny (ReflectliteValue.valueError "reflectlite.Value.Type" 0) (fun t _ _ _ => ReflectliteType.toType t)) Tryd.func48 (by kernel_rfl) (by kernel_rfl) (by kernel_rfl) (by kernel_rfl)
  have h8 := @run_callFunc_extern Tryd.prog 49 _ (ReflectliteValue.method (ReflectliteValue.valueError "reflectlite.Value.IsNil" 0) ReflectliteValue.isNil) Tryd.func49 (by kernel_rfl) (by kernel_rfl) (by kernel_rfl) (by kernel_rfl)
  have h27 := @run_callFunc_extern Tryd.prog 92 _ (ReflectliteType.abiMethod fun t => do pure (.int .u8 (← Rtype.kind t))) Tryd.func92 (by kernel_rfl) (by kernel_rfl) (by kernel_rfl) (by kernel_rfl)
  have h37 := @run_callFunc_extern Tryd.prog 106 _ (ReflectliteType.method ReflectliteType.elem) Tryd.func106 (by kernel_rfl) (by kernel_rfl) (by kernel_rfl) (by kernel_rfl)
  have h38 := @run_callFunc_extern Tryd.prog 107 _ (ReflectliteType.relation "Implements" ReflectliteType.implements_) Tryd.func107 (by kernel_rfl) (by kernel_rfl) (by kernel_rfl) (by kernel_rfl)
  have h10 := @run_callFunc_extern Tryd.prog 51 _ ReflectliteType.typeOf Tryd.func51 (by kernel_rfl) (by kernel_rfl) (by kernel_rfl) (by kernel_rfl)
  have h35 := @run_callFunc_extern Tryd.prog 104 _ (ReflectliteType.relation "AssignableTo" ReflectliteType.assignableTo) Tryd.func104 (by kernel_rfl) (by kernel_rfl) (by kernel_rfl) (by kernel_rfl)
  have h11 := @run_callFunc_extern Tryd.prog 65 _ (ReflectliteValue.method (ReflectliteValue.valueError "reflectlite.Value.Elem" 0) ReflectliteValue.elem) Tryd.func65 (by kernel_rfl) (by kernel_rfl) (by kernel_rfl) (by kernel_rfl)
  have h12 := @run_callFunc_extern Tryd.prog 66 _ ReflectliteValue.set Tryd.func66 (by kernel_rfl) (by kernel_rfl) (by kernel_rfl) (by kernel_rfl)
  have tO := Tryd.typeOfPF
  have tW := Tryd.typeOfPW
  have aW := Tryd.assignW2
  have nW := Tryd.noAsW
  have uWW := Tryd.unwrapW
  have mW := Tryd.methodUnwrapW
  have tO2 := Tryd.typeOfErrno
  have mA := Tryd.methodAssignableTo
  have a25 := Tryd.assignNot
  have a26 := Tryd.assignErrno
  have v25 := Tryd.valueOfErrno
  have f6 := Tryd.valueOfPE
  have f7 := Tryd.typePE
  have mK := Tryd.methodKind
  have mE := Tryd.methodElem
  have mI := Tryd.methodImplements
  have mU := Tryd.methodUnwrap
  have nA := Tryd.noAsF
  have uW := Tryd.unwrapF
  have k27 := Tryd.kindPE
  have k25 := Tryd.kindErrno
  have e27 := Tryd.elemPE
  have i25 := Tryd.implErrno
  have n8 := Tryd.isNilPE ⟨w.heap.size, 0, none⟩ t ((w.alloc (.cells #[.pointer (some t)] 93)).alloc (.cells #[.pointer (some ⟨1, 93, none⟩), .pointer (some ⟨w.heap.size, 0, none⟩), .int .u64 150] 82)) (by simp)
  have hg2 : ((w.alloc (.cells #[.pointer (some t)] 93)).alloc (.cells #[.pointer (some ⟨1, 93, none⟩), .pointer (some ⟨w.heap.size, 0, none⟩), .int .u64 150] 82)).cell? ⟨0, 0, none⟩ = some (.iface 112 (.agg #[.pointer (some ⟨1, 28, none⟩)])) := (hg.alloc _).alloc _
  have he3 : (((w.alloc (.cells #[.pointer (some t)] 93)).alloc (.cells #[.pointer (some ⟨1, 93, none⟩), .pointer (some ⟨w.heap.size, 0, none⟩), .int .u64 150] 82)).alloc (.cells #[.pointer (some ⟨1, 93, none⟩), .pointer (some ⟨w.heap.size, 0, none⟩), .int .u64 150] 82)).cell? e = some (.int .i64 c) := cell_alloc (cell_alloc (cell_alloc he _) _) _
  have hq3 : (((w.alloc (.cells #[.pointer (some t)] 93)).alloc (.cells #[.pointer (some ⟨1, 93, none⟩), .pointer (some ⟨w.heap.size, 0, none⟩), .int .u64 150] 82)).alloc (.cells #[.pointer (some ⟨1, 93, none⟩), .pointer (some ⟨w.heap.size, 0, none⟩), .int .u64 150] 82)).cell? ⟨q, 1, none⟩ = some (.iface 49 (.pointer (some e))) := cell_alloc (cell_alloc (cell_alloc hq _) _) _
  have hq4 : (((w.alloc (.cells #[.pointer (some t)] 93)).alloc (.cells #[.pointer (some ⟨1, 93, none⟩), .pointer (some ⟨w.heap.size, 0, none⟩), .int .u64 150] 82)).alloc (.cells #[.pointer (some ⟨1, 93, none⟩), .pointer (some ⟨w.heap.size, 0, none⟩), .int .u64 150] 82)).cell? ⟨q2, 1, none⟩ = some (.iface 76 (.pointer (some ⟨q, 0, none⟩))) := cell_alloc (cell_alloc (cell_alloc hq2 _) _) _
  have el := Tryd.elemVPE ⟨w.heap.size, 0, none⟩ t (((w.alloc (.cells #[.pointer (some t)] 93)).alloc (.cells #[.pointer (some ⟨1, 93, none⟩), .pointer (some ⟨w.heap.size, 0, none⟩), .int .u64 150] 82)).alloc (.cells #[.pointer (some ⟨1, 93, none⟩), .pointer (some ⟨w.heap.size, 0, none⟩), .int .u64 150] 82)) (by rw [World.cell?_alloc_lt _ _ ⟨w.heap.size, 0, none⟩ (by simp; omega)]; simp)
  have st := Tryd.setErrno t ⟨w.heap.size + 1 + 1 + 1, 0, none⟩ c old ((((w.alloc (.cells #[.pointer (some t)] 93)).alloc (.cells #[.pointer (some ⟨1, 93, none⟩), .pointer (some ⟨w.heap.size, 0, none⟩), .int .u64 150] 82)).alloc (.cells #[.pointer (some ⟨1, 93, none⟩), .pointer (some ⟨w.heap.size, 0, none⟩), .int .u64 150] 82)).alloc (.cells #[.int .i64 c] 52))
    (by rw [World.cell?_alloc_at _ _ _ _ (by simp)]; rfl)
    (cell_alloc (cell_alloc (cell_alloc (cell_alloc ht0 _) _) _) _)
    (frozen_alloc (cell_alloc (cell_alloc (cell_alloc ht0 _) _) _) (frozen_alloc (cell_alloc (cell_alloc ht0 _) _) (frozen_alloc (cell_alloc ht0 _) (frozen_alloc ht0 hf0 _) _) _) _)
  clear hg hq hq2
  go_enter Tryd.func27, Tryd.ntmps27
  go_wp2
  refine wp_loop_rounds 4 ?_
  rw [rounds_succ]
  go_wp2_with (go_at_call 99; refine (wrapped_unwrap q2 _ _ hq4).mono ?_; rintro ev w' ⟨rfl, rfl⟩)
  rw [rounds_succ]
  go_wp2_with (go_at_call 99; refine (wrapped_unwrap q _ _ hq3).mono ?_; rintro ev w' ⟨rfl, rfl⟩)
  rw [rounds_succ]
  go_wp2_with (go_at_call 96; refine (fault_unwrap e c _ he3).mono ?_; rintro ev w' ⟨rfl, rfl⟩)
  rw [rounds_succ]
  go_wp2
  go_ret
  exact ⟨rfl, rfl⟩
end Go.Proofs.YtidpihpddkfhgaaDoor

/- Contracts: errors.As and errors.Is at a Fault that is wrapped twice. -/
namespace Go.Proofs.YtidpihpddkfhgaaDoor
open Go.RowKit Go.Extern.Stop Go.Stop Go.Extern

set_option maxRecDepth 100000 in
set_option maxHeartbeats 4000000 in
theorem is_code_ww (q2 q : Nat) (e : Addr) (c : Int) (w : World) (hq2 : w.cell? ⟨q2, 1, none⟩ = some (.iface 76 (.pointer (some ⟨q, 0, none⟩)))) (hq : w.cell? ⟨q, 1, none⟩ = some (.iface 49 (.pointer (some e)))) (he : w.cell? e = some (.int .i64 c)) :
    Calls Tryd.prog 28 #[.iface 76 (.pointer (some ⟨q2, 0, none⟩)), .iface 52 (.int .i64 c)] w fun ev w' => ev = .returned (.bool true) ∧ w' = w := by
  have h8 := @run_callFunc_extern Tryd.prog 51 _ Extern.ReflectliteType.typeOf Tryd.func51 (by kernel_rfl) (by kernel_rfl) (by kernel_rfl) (by kernel_rfl)
  have h32 := @run_callFunc_extern Tryd.prog 105 _ cmpE Tryd.func105 (by kernel_rfl) (by kernel_rfl) (by kernel_rfl) (by kernel_rfl)
  have tT := Tryd.typeOfErrno
  have cT := Tryd.isComparable
  have mR := Tryd.methodComparable
  have nE := Tryd.noIsF
  have nW := Tryd.noIsW
  have uWW := Tryd.unwrapW
  have mW := Tryd.methodUnwrapW
  have hneW2 := run_eql_iface_types (P := Tryd.prog) 76 52 (.pointer (some ⟨q2, 0, none⟩)) (.int .i64 c) Tryd.underlying28 (by decide) w
  have hneW := run_eql_iface_types (P := Tryd.prog) 76 52 (.pointer (some ⟨q, 0, none⟩)) (.int .i64 c) Tryd.underlying28 (by decide) w
  have uW := Tryd.unwrapF
  have mU := Tryd.methodUnwrap
  have hne := run_eql_iface_types (P := Tryd.prog) 49 52 (.pointer (some e)) (.int .i64 c) Tryd.underlying28 (by decide) w
  have heq := Lib.run_eql_iface_int (P := Tryd.prog) (k := .i64) w c c Tryd.underlying28 Tryd.compErrno Tryd.underlying52
  rw [beq_self_eq_true] at heq
  go_enter Tryd.func28, Tryd.ntmps28
  go_wp2
  refine wp_loop_rounds 4 ?_
  rw [rounds_succ]
  go_wp2_with (go_at_call 99; refine (wrapped_unwrap q2 _ _ hq2).mono ?_; rintro ev w' ⟨rfl, rfl⟩)
  rw [rounds_succ]
  go_wp2_with (go_at_call 99; refine (wrapped_unwrap q _ _ hq).mono ?_; rintro ev w' ⟨rfl, rfl⟩)
  rw [rounds_succ]
  go_wp2_with (go_at_call 96; refine (fault_unwrap e c _ he).mono ?_; rintro ev w' ⟨rfl, rfl⟩)
  rw [rounds_succ]
  go_wp2
  go_ret
  exact ⟨rfl, rfl⟩
end Go.Proofs.YtidpihpddkfhgaaDoor

/- Contracts: errors.As and errors.Is at a Fault that is wrapped twice. -/
namespace Go.Proofs.YtidpihpddkfhgaaDoor
open Go.RowKit Go.Extern.Stop Go.Stop Go.Extern

theorem as_fault_ww_at (q2 q : Nat) (e t : Addr) (old : Value) (W w : World) (hg : Han w) (hq2 : w.cell? ⟨q2, 1, none⟩ = some (.iface 76 (.pointer (some ⟨q, 0, none⟩)))) (hq : w.cell? ⟨q, 1, none⟩ = some (.iface 49 (.pointer (some e)))) (hB : Below W.heap.size W w) (htb : W.heap.size ≤ t.block) (ht0 : w.cell? t = some old) (hf0 : w.frozen? t = false) :
    Calls Tryd.prog 27 #[.iface 76 (.pointer (some ⟨q2, 0, none⟩)), .iface 51 (.pointer (some t))] w fun ev w' => ev = .returned (.bool true) ∧ Below W.heap.size W w' ∧ w'.cell? t = some (.pointer (some e)) := by
  refine (as_fault_ww q2 q e t old w hg hq2 hq ht0 hf0).mono ?_
  rintro ev w' ⟨rfl, rfl⟩
  refine ⟨rfl, ?_, cell_set (cell_alloc (cell_alloc (cell_alloc (cell_alloc ht0 _) _) _) _)⟩
  have s := hB.size
  refine Below.setCell ?_ htb _
  exact ((((hB.alloc s _).alloc (by rw [alloc_size]; omega) _).alloc (by rw [alloc_size, alloc_size]; omega) _).alloc (by rw [alloc_size, alloc_size, alloc_size]; omega) _)
theorem as_errno_ww_at (q2 q : Nat) (e t : Addr) (c : Int) (old : Value) (W w : World) (hg : Han w) (hq2 : w.cell? ⟨q2, 1, none⟩ = some (.iface 76 (.pointer (some ⟨q, 0, none⟩)))) (hq : w.cell? ⟨q, 1, none⟩ = some (.iface 49 (.pointer (some e)))) (he : w.cell? e = some (.int .i64 c)) (hB : Below W.heap.size W w) (htb : W.heap.size ≤ t.block) (ht0 : w.cell? t = some old) (hf0 : w.frozen? t = false) :
    Calls Tryd.prog 27 #[.iface 76 (.pointer (some ⟨q2, 0, none⟩)), .iface 93 (.pointer (some t))] w fun ev w' => ev = .returned (.bool true) ∧ Below W.heap.size W w' ∧ w'.cell? t = some (.int .i64 c) := by
  refine (as_errno_ww q2 q e t c old w hg hq2 hq he ht0 hf0).mono ?_
  rintro ev w' ⟨rfl, rfl⟩
  refine ⟨rfl, ?_, cell_set (cell_alloc (cell_alloc (cell_alloc (cell_alloc ht0 _) _) _) _)⟩
  have s := hB.size
  refine Below.setCell ?_ htb _
  exact ((((hB.alloc s _).alloc (by rw [alloc_size]; omega) _).alloc (by rw [alloc_size, alloc_size]; omega) _).alloc (by rw [alloc_size, alloc_size, alloc_size]; omega) _)


set_option maxRecDepth 100000 in
set_option maxHeartbeats 4000000 in
theorem code_ww (q2 q : Nat) (e : Addr) (c : Int) (w : World) (hg : Han w) (hq2 : w.cell? ⟨q2, 1, none⟩ = some (.iface 76 (.pointer (some ⟨q, 0, none⟩)))) (hq : w.cell? ⟨q, 1, none⟩ = some (.iface 49 (.pointer (some e)))) (he : w.cell? e = some (.int .i64 c)) :
    Calls Tryd.prog 29 #[.iface 76 (.pointer (some ⟨q2, 0, none⟩))] w fun ev w' => ev = .returned (.int .i64 c) ∧ Below w.heap.size w w' := by
  have HG := Lib.hid hg
  have HQ := Lib.hid hq
  have HQ2 := Lib.hid hq2
  have HE := Lib.hid he
  clear hg he hq hq2
  go_enter Tryd.func29, Tryd.ntmps29
  go_wp2_with (go_at_call 27; refine (as_errno_ww_at q2 q e ⟨w.heap.size, 0, none⟩ c (.int .i64 0) w _ (HG.out.alloc _) (cell_alloc HQ2.out _) (cell_alloc HQ.out _) (cell_alloc HE.out _) ((Below.refl _ _).alloc (Nat.le_refl _) _) (Nat.le_refl _) (by simp) (by simp)).mono ?_; rintro ev w' ⟨rfl, hb, hc⟩; have HB := Lib.hid hb; clear hb)
  go_ret
  exact ⟨rfl, HB.out⟩

set_option maxRecDepth 100000 in
set_option maxHeartbeats 4000000 in
theorem num_ww (q2 q : Nat) (e : Addr) (c : Int) (w : World) (hg : Han w) (hq2 : w.cell? ⟨q2, 1, none⟩ = some (.iface 76 (.pointer (some ⟨q, 0, none⟩)))) (hq : w.cell? ⟨q, 1, none⟩ = some (.iface 49 (.pointer (some e)))) (he : w.cell? e = some (.int .i64 c)) (h0 : c ≠ 0) :
    Calls Tryd.prog 11 #[.iface 76 (.pointer (some ⟨q2, 0, none⟩))] w fun ev w' => ev = .returned (.int .i64 c) ∧ Below w.heap.size w w' := by
  have HG := Lib.hid hg
  have HQ := Lib.hid hq
  have HQ2 := Lib.hid hq2
  have HE := Lib.hid he
  have b0 : (c == 0) = false := by rw [beq_eq_false_iff_ne]; exact h0
  have b1 : (c != c) = false := by simp
  clear hg he hq hq2 h0
  have Q1 : Hid (Han (w.alloc (.cells #[.pointer none] 49)).drew) := HG.out.alloc _
  have Q5 : Hid ((w.alloc (.cells #[.pointer none] 49)).drew.cell? ⟨q, 1, none⟩ = some (.iface 49 (.pointer (some e)))) := cell_alloc HQ.out _
  have Q6 : Hid ((w.alloc (.cells #[.pointer none] 49)).drew.cell? ⟨q2, 1, none⟩ = some (.iface 76 (.pointer (some ⟨q, 0, none⟩)))) := cell_alloc HQ2.out _
  have Q2 : Hid (Below w.heap.size w (w.alloc (.cells #[.pointer none] 49)).drew) := ((Below.refl _ _).alloc (Nat.le_refl _) _).drew
  have Q3 : Hid ((w.alloc (.cells #[.pointer none] 49)).drew.cell? ⟨w.heap.size, 0, none⟩ = some (.pointer none)) := by show (w.alloc (.cells #[.pointer none] 49)).cell? ⟨w.heap.size, 0, none⟩ = some (.pointer none); simp
  have Q4 : Hid ((w.alloc (.cells #[.pointer none] 49)).drew.frozen? ⟨w.heap.size, 0, none⟩ = false) := by show (w.alloc (.cells #[.pointer none] 49)).frozen? ⟨w.heap.size, 0, none⟩ = false; simp
  go_enter Tryd.func11, Tryd.ntmps11
  go_wp2
  go_region_with (first
    | (go_at_call 27; refine (as_fault_ww_at q2 q e ⟨w.heap.size, 0, none⟩ (.pointer none) w _ ?_ ?_ ?_ ?_ (Nat.le_refl _) ?_ ?_).mono ?_; (exact Q1.out); (exact Q6.out); (exact Q5.out); (exact Q2.out); (exact Q3.out); (exact Q4.out); rintro ev w2 ⟨rfl, hb, hc⟩; have he2 := cell_below HE.out hb; have hr2 := cell_below HQ.out hb; have hs2 := cell_below HQ2.out hb; have HB := Lib.hid hb; have HG2 := Lib.hid (HG.out.below hb); clear hb)
    | (go_at_call 28; refine (is_code_ww q2 q e c _ ?_ ?_ ?_).mono ?_; (exact hs2); (exact hr2); (exact he2); rintro ev w' ⟨rfl, rfl⟩)
    | (go_at_call 29; refine (code_ww q2 q e c _ ?_ ?_ ?_ ?_).mono ?_; (exact HG2.out); (exact hs2); (exact hr2); (exact he2); rintro ev w3 ⟨rfl, hb3⟩; have he3 := cell_below he2 hb3; have hc3 := cell_below hc hb3; have hr3 := cell_below hr2 hb3; have HB3 := Lib.hid hb3; clear hb3))
  all_goals
    go_wp2
    go_ret
    exact ⟨rfl, HB.out.trans (HB3.out.mono HB.out.size)⟩
end Go.Proofs.YtidpihpddkfhgaaDoor

