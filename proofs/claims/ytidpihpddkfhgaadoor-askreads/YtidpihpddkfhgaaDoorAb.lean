/- Requests as values: what one reads as, two that are held against each other. -/
import Derived.Test.YtidpihpddkfhgaaDoorAa
namespace Go.Proofs.YtidpihpddkfhgaaDoor
open Go.RowKit Slices Go.Proofs.YtidpihpddkfhgaaDoor.Bit

theorem list_eq {l l' : List Int} (hn : l.length = l'.length) (h : ∀ j, j < l.length → l.getD j 0 = l'.getD j 0) : l = l' := by
  apply List.ext_getElem hn
  intro i h1 h2
  have e := h i h1
  rw [List.getD_eq_getElem?_getD, List.getElem?_eq_getElem h1, List.getD_eq_getElem?_getD, List.getElem?_eq_getElem h2] at e
  exact e
set_option maxRecDepth 100000 in
set_option maxHeartbeats 2000000 in
theorem sameB_any (A A' : Option Addr) (c c' n n' B : Nat) (l l' : List Int) (w : World) (hn : n = l.length) (hn' : n' = l'.length) (hl : n ≤ 4611686018427387904) (hl' : n' ≤ 4611686018427387904) (h : Has .u8 w B A l) (h' : Has .u8 w B A' l') :
    Calls Tryd.prog 10 #[.slice A n c, .slice A' n' c'] w fun e w' => e = .returned (.bool (decide (l = l'))) ∧ ∃ k, w' = w.drewN k := by
  by_cases hne : n = n'
  · subst hne
    obtain ⟨R, hR⟩ : ∃ R, R = decide (l = l') := ⟨_, rfl⟩
    rw [← hR]
    have HR := Lib.hid hR
    have HN := Lib.hid hn
    have HN' := Lib.hid hn'
    have H := Lib.hid h
    have H' := Lib.hid h'
    clear hR hn hn' h h'
    go_enter Tryd.func10, Tryd.ntmps10
    go_wp2
    go_loopw [5] (fun i wr => ∃ k d : Nat, k ≤ n ∧ i = .int .i64 k ∧ (∀ j, j < k → l.getD j 0 = l'.getD j 0) ∧ wr = w.drewN d) (fun i _ => n - (intOf i).toNat)
    case atStart => exact ⟨0, 0, Nat.zero_le _, rfl, fun j hj => by omega, rfl⟩
    case round =>
      obtain ⟨k, d, hk, rfl, hq, rfl⟩ := hrel
      have HQ := Lib.hid hq
      clear hq
      by_cases hlt : k < n
      · obtain ⟨a, rfl, _, ha⟩ := H.out k (by rw [← HN.out]; exact hlt)
        obtain ⟨a', rfl, _, ha'⟩ := H'.out k (by rw [← HN'.out]; exact hlt)
        by_cases hx : l.getD k 0 = l'.getD k 0
        · have HX := Lib.hid hx
          rw [← hx] at ha'
          clear hx
          go_wp2
          go_quiet (fail)
          go_wp2
          go_roundw
          case rel => exact ⟨k + 1, d + nq, by omega, by go_num, fun j hj => by
            by_cases e : j = k
            · subst e; exact HX.out
            · exact HQ.out j (by omega), rfl⟩
          case measure => simp [intOf]; omega
        · have HX : Hid (R = false) := by
            show R = false
            rw [HR.out, decide_eq_false_iff_not]
            intro e
            exact hx (by rw [e])
          have t1 : (l.getD k 0 == l'.getD k 0) = false := beq_eq_false_iff_ne.2 hx
          generalize l.getD k 0 = x at ha t1
          generalize l'.getD k 0 = y at ha' t1
          clear hx
          go_wp2
          go_quiet (fail)
          go_wp2
          go_ret
          exact ⟨by rw [HX.out]; rfl, d + nq, by rw [World.drewN_drewN]⟩
      · have HX : Hid (R = true) := by
          show R = true
          rw [HR.out, decide_eq_true_iff]
          have e1 := HN.out
          have e2 := HN'.out
          exact list_eq (by omega) fun j hj => HQ.out j (by omega)
        go_wp2
        go_ret
        exact ⟨by rw [HX.out]; rfl, d, rfl⟩
  · have e : decide (l = l') = false := by
      rw [decide_eq_false_iff_not]
      intro e
      exact hne (by rw [hn, hn', e])
    rw [e]
    have t1 : ((n : Int) == (n' : Int)) = false := by rw [beq_eq_false_iff_ne]; omega
    clear hne hn hn' e h h'
    go_enter Tryd.func10, Tryd.ntmps10
    go_wp2
    go_ret
    exact ⟨rfl, 0, rfl⟩
theorem sameB_dec (A A' : Option Addr) (c c' n n' : Nat) (l l' : List Int) (w : World) (hn : n = l.length) (hn' : n' = l'.length) (hl : n ≤ 4611686018427387904) (hl' : n' ≤ 4611686018427387904) (h : Has .u8 w w.heap.size A l) (h' : Has .u8 w w.heap.size A' l') :
    Calls Tryd.prog 10 #[.slice A n c, .slice A' n' c'] w fun e w' => e = .returned (.bool (decide (l = l'))) ∧ Below w.heap.size w w' :=
  (sameB_any A A' c c' n n' w.heap.size l l' w hn hn' hl hl' h h').mono fun e w' ⟨h1, n, h2⟩ => ⟨h1, by rw [h2]; exact below_drewN (Below.refl _ _) n⟩

theorem sameB_ne (A A' : Option Addr) (c c' n n' : Nat) (l l' : List Int) (w : World) (hne : l ≠ l') (hn : n = l.length) (hn' : n' = l'.length) (hl : n ≤ 40000) (hl' : n' ≤ 40000) (h : Has .u8 w w.heap.size A l) (h' : Has .u8 w w.heap.size A' l') :
    Calls Tryd.prog 10 #[.slice A n c, .slice A' n' c'] w fun e w' => e = .returned (.bool false) ∧ Below w.heap.size w w' :=
  (sameB_dec A A' c c' n n' l l' w hn hn' (by omega) (by omega) h h').mono fun e w' ⟨h1, h2⟩ => ⟨by rw [h1, decide_eq_false hne], h2⟩

/-- a request's values: where its bytes and its token lie -/
def askVals (a : AskV) (A1 : Option Addr) (c1 : Nat) (A2 : Option Addr) (c2 : Nat) : Array Value := #[.int .i64 a.who, .int .i64 a.nonce, .int .i64 a.op, .int .i64 a.tenant, .int .i64 a.key, .int .i64 a.version, .int .i64 a.set, .int .i64 a.grant, .int .i64 a.to, .int .i64 a.ops, .int .i64 a.till, .string a.name, .slice A1 a.bytes.length c1, .slice A2 a.token.length c2]
structure AskIn (w : World) (B : Nat) (a : AskV) (A1 : Option Addr) (c1 : Nat) (A2 : Option Addr) (c2 : Nat) : Prop where
  hb : Has .u8 w B A1 a.bytes
  ht : Has .u8 w B A2 a.token
  nb : A1 = none → a.bytes.length = 0 ∧ c1 = 0
  nt : A2 = none → a.token.length = 0 ∧ c2 = 0
  cb : a.bytes.length ≤ c1
  ct : a.token.length ≤ c2
theorem AskIn.next {w w' : World} {a : AskV} {A1 A2 : Option Addr} {c1 c2 : Nat} (h : AskIn w w.heap.size a A1 c1 A2 c2) (hb : Below w.heap.size w w') : AskIn w' w'.heap.size a A1 c1 A2 c2 :=
  ⟨has_next h.hb hb, has_next h.ht hb, h.nb, h.nt, h.cb, h.ct⟩
/-- are two requests one? -/
noncomputable def sameV (a b : AskV) : Bool := @decide (a = b) (Classical.propDecidable _)
theorem sameV_self (a : AskV) : sameV a a = true := @decide_eq_true _ (Classical.propDecidable _) rfl
theorem sameV_no {a b : AskV} (h : a ≠ b) : sameV a b = false := @decide_eq_false _ (Classical.propDecidable _) h
theorem sameV_iff {a b : AskV} : sameV a b = true ↔ a = b := @decide_eq_true_iff _ (Classical.propDecidable _)
theorem str_ne {s t : ByteArray} (h : s ≠ t) : (s.toList == t.toList) = false := by
  rw [beq_eq_false_iff_ne]
  intro e
  rw [ByteArray.toList_eq, ByteArray.toList_eq] at e
  exact h (ByteArray.ext (Array.toList_inj.mp e))

theorem cellB {w w' : World} {a : Addr} {v : Value} (h : w.cell? a = some v) (hb : Below w.heap.size w w') : w'.cell? a = some v := (hb.cell (World.block_lt_of_cell? w a h)).trans h
/-- more than the statements go through -/
def greatB (a : AskV) : Bool := decide (400 < (a.name.size : Int)) || decide (3000 < (a.bytes.length : Int)) || decide (200 < (a.token.length : Int))
theorem greatA_any (a : AskV) (A1 A2 : Option Addr) (c1 c2 : Nat) (w : World) :
    Calls Tryd.prog 6 #[.agg (askVals a A1 c1 A2 c2)] w fun e w' => e = .returned (.bool (greatB a)) ∧ Below w.heap.size w w' := by
  obtain ⟨x0, x1, x2, x3, x4, x5, x6, x7, x8, x9, x10, s, l1, l2⟩ := a
  simp only [askVals]
  go_enter Tryd.func6, Tryd.ntmps6
  go_wp2
  all_goals
    go_ret
    refine ⟨?_, (Below.refl _ _).alloc (Nat.le_refl _) _⟩
    first | rfl | (simp [greatB]; omega)

/-- a world that grew by what was boxed -/
theorem below_box (w : World) (o o' : Obj) : Below w.heap.size w ((w.alloc o).alloc o') := ((Below.refl _ _).alloc (Nat.le_refl _) _).alloc (by simp) _
end Go.Proofs.YtidpihpddkfhgaaDoor
