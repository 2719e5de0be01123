/- Contract: parts as bytes behind bytes, by the document's own code. -/
import Derived.Test.YtidpihpddkfhgaaDoorCi
import Derived.Deep.RegionHeld3
import Derived.Deep.AppendLies
namespace Go.Proofs.YtidpihpddkfhgaaDoor
open Go.RowKit Slices Go.Proofs.YtidpihpddkfhgaaDoor.Bit

/-- append onto what the call made, whatever is appended, at a step of a region that draws its order -/
theorem step_append_any {P : Program} (w : World) {ops : Array Oper} {o : Oper} {a : Act} {K : Act → World → Prop} {Q : Exit → Act → World → Prop} {E : Prop} (hgd : o.guard = none) (s x : Operand) (t : TypeId)
    (ho : o.op = .call { callee := .builtin .append, args := #[s, x], argTypes := #[t, t] })
    (base : Nat) (e : TypeId) (i : TypeInfo) (z : Value) (size bytes : Nat) (ht : P.underlying t = some (.slice e)) (hi : P.info? e = some i) (hz : i.zero = some z)
    (hsize : i.size = size) (hby : i.bytes = bytes) (hzs : z.cells.size = size) (hsz : 0 < size)
    (v : Value) (n : Nat) (xs : List Value) (hs : a.eval s = v) (hown : w.ownsRow base e size v n xs)
    (ao : Option Addr) (m c : Nat) (news : List Value) (hx : a.eval x = .slice ao m c) (hl : news.length = m * size) (hnone : ao = none → m = 0 ∧ c = 0) (hnews : ∀ ad, ao = some ad → ∀ j u, news[j]? = some u → w.cell? (ad.add j) = some u) (h1 : ∀ u ∈ news, u.oneCell' = true)
    (h63 : n + m ≤ maxLen) (hbytes : (n + m) * bytes ≤ 140737488355328) (hbase : base ≤ w.heap.size)
    (h : ∀ v' w', w'.ownsRow base e size v' (n + m) (xs ++ news) → w.grownBy w' v.ownBlock → K (a.put o.dst v') w') :
    if Region.wanted o (yielded ops a.tmps) = true then Oper.wp P o a w K Q else E := by
  have hw : Region.wanted o (yielded ops a.tmps) = true := by simp [Region.wanted, hgd]
  rw [if_pos hw]
  cases ao with
  | some ad => exact wp_append_own w s x t ho base e i z size bytes ht hi hz hsize hby hzs hsz v n xs hs hown ad m c news hx hl (hnews ad rfl) h1 h63 hbytes hbase fun v' w' a b _ => h v' w' a b
  | none =>
    obtain ⟨rfl, rfl⟩ := hnone rfl
    have hn : news = [] := List.eq_nil_of_length_eq_zero (by simpa using hl)
    subst hn
    have hrun := run_append_owned_none (P := P) (w := w) base t o.type e i size ht hi v n xs hown
    unfold Oper.wp
    simp [execOp, ho, resolve, invoke, builtin, hs, hx, hrun, Result.andThen]
    exact h v w (by simpa using hown) (World.grownBy.refl _ _)

/-- parts: where each lies, its room, its bytes -/
structure Piece where
  A : Option Addr
  c : Nat
  l : List Int
def bytesOf (ps : List Piece) : List (List Int) := ps.map (·.l)
def HasP (w : World) (B : Nat) (A : Option Addr) (ps : List Piece) : Prop :=
  ∀ k (h : k < ps.length), (∃ a : Addr, A = some a ∧ a.block < B ∧ w.cell? (a.add k) = some (.slice ps[k].A ps[k].l.length ps[k].c)) ∧ Has .u8 w B ps[k].A ps[k].l ∧ (ps[k].A = none → ps[k].l.length = 0 ∧ ps[k].c = 0)
theorem HasP.below {w w' : World} {B : Nat} {A : Option Addr} {ps : List Piece} (h : HasP w B A ps) (hb : Below B w w') : HasP w' B A ps := fun k hk => by
  obtain ⟨⟨a, e, ha, hc⟩, h2, h3⟩ := h k hk
  exact ⟨⟨a, e, ha, (hb.cell (by rw [add_block]; exact ha)).trans hc⟩, h2.below hb, h3⟩
theorem HasP.mono {w : World} {B B' : Nat} {A : Option Addr} {ps : List Piece} (h : HasP w B A ps) (hB : B ≤ B') : HasP w B' A ps := fun k hk => by
  obtain ⟨⟨a, e, ha, hc⟩, h2, h3⟩ := h k hk
  exact ⟨⟨a, e, by omega, hc⟩, h2.mono hB, h3⟩
theorem HasP.next {w w' : World} {A : Option Addr} {ps : List Piece} (h : HasP w w.heap.size A ps) (hb : Below w.heap.size w w') : HasP w' w'.heap.size A ps := (h.below hb).mono hb.size

/-- the bytes of parts, one behind the other -/
def partsB : List (List Int) → List Int
  | [] => []
  | l :: r => be8 l.length ++ l ++ partsB r
theorem partsB_app (a b : List (List Int)) : partsB (a ++ b) = partsB a ++ partsB b := by
  induction a with
  | nil => rfl
  | cons l r ih => show be8 l.length ++ l ++ partsB (r ++ b) = (be8 l.length ++ l ++ partsB r) ++ partsB b; rw [ih]; simp only [List.append_assoc]
theorem partsB_one (l : List Int) : partsB [l] = be8 l.length ++ l := by show be8 l.length ++ l ++ [] = _; rw [List.append_nil]
theorem partsB_le {N : Nat} : ∀ ls : List (List Int), (∀ l ∈ ls, l.length ≤ N) → (partsB ls).length ≤ ls.length * (N + 8) := by
  intro ls
  induction ls with
  | nil => intro _; exact Nat.zero_le _
  | cons l r ih =>
    intro h
    show (be8 l.length ++ l ++ partsB r).length ≤ _
    rw [List.length_append, List.length_append, be8_len, List.length_cons, Nat.add_mul]
    have h1 := h l (by simp)
    have h2 := ih fun x hx => h x (by simp [hx])
    omega
theorem bytes_next (ps : List Piece) {k : Nat} (h : k < ps.length) : partsB (bytesOf (ps.take (k + 1))) = partsB (bytesOf (ps.take k)) ++ be8 ps[k].l.length ++ ps[k].l := by
  rw [List.take_succ_eq_append_getElem h]
  unfold bytesOf
  rw [List.map_append, partsB_app]
  show _ ++ partsB [ps[k].l] = _
  rw [partsB_one, List.append_assoc]

theorem own_readn {κ : IntKind} {t : TypeId} {w : World} {B c n : Nat} {A : Option Addr} {l : List Int} (hn : n = l.length) (h : w.ownsRow B t 1 (.slice A n c) n (ints κ l)) : Has κ w w.heap.size A l := by
  subst hn
  exact own_read h
/-- a number behind bytes, with the lengths as letters -/
theorem refNumber_n (A A' : Option Addr) (c c' n : Nat) (b : List Int) (x : Int) (w : World) (hn : n = b.length) (h : Has .u8 w w.heap.size A b) (hA : A = none → n = 0 ∧ c = 0) (h' : Has .i64 w w.heap.size A' [x]) (hl : n ≤ 40000) :
    Calls Tryd.prog 44 #[.slice A n c, .slice A' 1 c'] w fun e w' => ∃ A1 c1, e = .returned (.slice A1 (n + 8) c1) ∧ w'.ownsRow w.heap.size 5 1 (.slice A1 (n + 8) c1) (n + 8) (ints .u8 (b ++ be8 x)) ∧ Below w.heap.size w w' := by
  subst hn
  refine (refNumber_any A A' c c' b [x] w h hA h' hl (by simp)).mono ?_
  rintro e w' ⟨A1, c1, he, ho, hb⟩
  have hL : (b ++ beL [x]).length = b.length + 8 := by rw [List.length_append, beL_one, be8_len]
  rw [hL] at he ho
  rw [beL_one] at ho
  exact ⟨A1, c1, he, ho, hb⟩

/-- the bytes of the first k parts are laid behind b -/
def PaRow (w : World) (M : List Int) (m : Nat) (v : Value) (wr : World) : Prop :=
  wr.ownsRow w.heap.size 5 1 v m (ints .u8 M) ∧ Below w.heap.size w wr

set_option maxRecDepth 100000 in
set_option maxHeartbeats 4000000 in
theorem refBytes_any (A A' : Option Addr) (c c' : Nat) (b : List Int) (ps : List Piece) (w : World) (h : Has .u8 w w.heap.size A b) (hA : A = none → b.length = 0 ∧ c = 0) (h' : HasP w w.heap.size A' ps) (hl : b.length ≤ 10000) (hn : ps.length ≤ 4) (hp : ∀ k (h : k < ps.length), ps[k].l.length ≤ 4000) :
    Calls Tryd.prog 45 #[.slice A b.length c, .slice A' ps.length c'] w (Res .u8 5 w (b ++ partsB (bytesOf ps))) := by
  obtain ⟨i0, hi0, hz0, hz1, hz2⟩ := info_parts Tryd.info5
  have HLen : Hid (∀ k, k ≤ ps.length → (b ++ partsB (bytesOf (ps.take k))).length ≤ 30000) := fun k hk => by
    have := partsB_le (N := 4000) (bytesOf (ps.take k)) (fun l hl => by
      unfold bytesOf at hl
      rw [List.mem_map] at hl
      obtain ⟨p, hp1, rfl⟩ := hl
      obtain ⟨i, hi, rfl⟩ := List.mem_iff_getElem.1 (List.mem_of_mem_take hp1)
      exact hp i hi)
    unfold bytesOf at this
    rw [List.length_map, List.length_take] at this
    rw [List.length_append]
    unfold bytesOf
    have : min k ps.length * (4000 + 8) ≤ 4 * 4008 := Nat.mul_le_mul_right _ (by omega)
    omega
  have H := Lib.hid h
  have H' := Lib.hid h'
  have HA := Lib.hid hA
  have HP := Lib.hid hp
  clear h h' hA hp
  go_enter Tryd.func45, Tryd.ntmps45
  go_wp2_with (at_builtin; refine append_any w rfl _ _ 22 rfl w.heap.size 5 i0 (.int .u8 0) 1 1 Tryd.underlying22 hi0 hz0 hz1 hz2 rfl (by decide) _ 0 [] rfl (World.ownsRow_nil _ _ _ _) A b.length c (ints .u8 b) rfl (by rw [ints_length, Nat.mul_one]) HA.out H.out.cells (ints_one _ _) (by unfold maxLen; omega) (by omega) (Nat.le_refl _) ?_; intro v1 w1 hown hgr; have hb1 : Below w.heap.size w w1 := (Below.refl _ w).grown hgr (Nat.le_refl _) (fun q hq => by cases hq); have HO1 := Lib.hid hown; have HB1 := Lib.hid hb1; clear hown hgr hb1)
  have HS : Hid (PaRow w (b ++ partsB (bytesOf (ps.take 0))) (b ++ partsB (bytesOf (ps.take 0))).length v1 w1) := ⟨by have := HO1.out; simpa [partsB, bytesOf] using this, HB1.out⟩
  clear HO1 HB1
  go_loopw [5, 6] (fun v i wr => ∃ k : Nat, k ≤ ps.length ∧ i = .int .i64 k ∧ PaRow w (b ++ partsB (bytesOf (ps.take k))) (b ++ partsB (bytesOf (ps.take k))).length v wr) (fun _ i _ => ps.length - (intOf i).toNat)
  case atStart => exact ⟨0, by omega, rfl, HS.out⟩
  case round =>
    obtain ⟨k, hk, rfl, hrow⟩ := hrel
    have HR := Lib.hid hrow
    clear hrow HS
    by_cases hlt : k < ps.length
    · obtain ⟨⟨a, rfl, hab, hc⟩, hh, hno⟩ := H'.out k hlt
      have hpl := HP.out k hlt
      have hlen := HLen.out k hk
      have HNX : Hid (b ++ partsB (bytesOf (ps.take (k + 1))) = b ++ partsB (bytesOf (ps.take k)) ++ be8 ps[k].l.length ++ ps[k].l) := by
        show _ = _
        rw [bytes_next ps hlt]
        simp only [List.append_assoc]
      obtain ⟨M, hM⟩ : ∃ M, M = b ++ partsB (bytesOf (ps.take k)) := ⟨_, rfl⟩
      obtain ⟨m, hm⟩ : ∃ m, m = M.length := ⟨_, rfl⟩
      rw [← hM] at HR HNX hlen
      rw [← hm] at HR hlen
      obtain ⟨PA, hPA⟩ : ∃ x, x = ps[k].A := ⟨_, rfl⟩
      obtain ⟨pc, hpc⟩ : ∃ x, x = ps[k].c := ⟨_, rfl⟩
      obtain ⟨pl, hpl2⟩ : ∃ x, x = ps[k].l := ⟨_, rfl⟩
      obtain ⟨N, hN⟩ : ∃ x, x = pl.length := ⟨_, rfl⟩
      rw [← hPA, ← hpc, ← hpl2, ← hN] at hc
      rw [← hPA, ← hpl2] at hh
      rw [← hPA, ← hpc, ← hpl2, ← hN] at hno
      rw [← hpl2, ← hN] at hpl
      rw [← hpl2, ← hN] at HNX
      have HN := Lib.hid hN
      have Hm := Lib.hid hm
      have HH := Lib.hid hh
      have HNO := Lib.hid hno
      have HF : Hid (∀ W, Below w.heap.size w W → Below w.heap.size w W ∧ W.cell? (a.add k) = some (.slice PA N pc)) := fun W hb => ⟨hb, (hb.cell (by rw [add_block]; exact hab)).trans hc⟩
      clear hM hm hPA hpc hpl2 hN hh hno hc
      have hi2 : (k : Int) < (ps.length : Int) := by omega
      have hi0' : (0 : Int) ≤ (k : Int) := Int.natCast_nonneg _
      obtain ⟨A1, c1, rfl⟩ := own_slice HR.out.1
      have HRD : Hid (Has .u8 wr wr.heap.size A1 M) := own_readn Hm.out HR.out.1
      obtain ⟨hB0, hC0⟩ := HF.out _ HR.out.2
      go_wp2
      have hs0 := hB0.size
      have W1 : Hid (Below wr.heap.size wr (wr.alloc (.cells #[.int .i64 (N : Int)] 3)).drew) := ((Below.refl _ wr).alloc (Nat.le_refl _) _).drew
      have W2 : Hid (Below w.heap.size w (wr.alloc (.cells #[.int .i64 (N : Int)] 3)).drew) := (hB0.alloc hs0 _).drew
      have W3 : Hid (w.heap.size ≤ (wr.alloc (.cells #[.int .i64 (N : Int)] 3)).drew.heap.size) := W2.out.size
      have W4 : Hid (Has .u8 (wr.alloc (.cells #[.int .i64 (N : Int)] 3)).drew (wr.alloc (.cells #[.int .i64 (N : Int)] 3)).drew.heap.size A1 M) := has_next HRD.out W1.out
      have W5 : Hid (Has .i64 (wr.alloc (.cells #[.int .i64 (N : Int)] 3)).drew (wr.alloc (.cells #[.int .i64 (N : Int)] 3)).drew.heap.size (some ⟨wr.heap.size, 0, none⟩) [(N : Int)]) := one_has wr N
      have W6 : Hid (m ≤ 40000) := Nat.le_trans hlen (by decide)
      have W7 : Hid (A1 = none → m = 0 ∧ c1 = 0) := fun e => own_none HR.out.1 e
      have W8 : Hid (m + 8 + N ≤ maxLen) := by show m + 8 + N ≤ maxLen; unfold maxLen; omega
      have W9 : Hid ((m + 8 + N) * 1 ≤ 140737488355328) := by show (m + 8 + N) * 1 ≤ _; omega
      have W10 : Hid ((ints .u8 pl).length = N * 1) := by show _ = _; rw [ints_length, HN.out, Nat.mul_one]
      go_region_held3 (fun w' => Below w.heap.size w w' ∧ w'.cell? (a.add k) = some (.slice PA N pc))
        (first
          | (refine HF.out _ ?_; repeat (first | assumption | refine Below.drew ?_ | refine Below.alloc ?_ (by first | assumption | (simp; omega)) _)))
        (first
          | (go_at_call 44; refine (refNumber_n A1 _ c1 _ m M N _ Hm.out W4.out W7.out W5.out W6.out).mono ?_; rintro e w3 ⟨A4, c4, rfl, ho, hb⟩; have hq := below_next W2.out hb; have HO4 := Lib.hid (own_down ho W3.out); have HQ := Lib.hid hq; clear ho hb)
          | (refine step_append_any _ (by rfl) _ _ _ (by rfl) w.heap.size 5 i0 _ 1 1 Tryd.underlying22 hi0 hz0 hz1 hz2 rfl (by decide) _ (m + 8) _ (by rfl) HO4.out PA N pc (ints .u8 pl) (by rfl) W10.out HNO.out (HH.out.below HQ.out).cells (ints_one _ _) W8.out W9.out HQ.out.size ?_; intro v4 w4 hown4 hgrow4; have hq4 := HQ.out.grown hgrow4 HQ.out.size (fun q hq => (HO4.out.lt q hq).1)))
      have HP4 : Hid (PaRow w (b ++ partsB (bytesOf (ps.take (k + 1)))) (b ++ partsB (bytesOf (ps.take (k + 1)))).length v4 w4) := by
        rw [HNX.out]
        refine ⟨?_, hq4⟩
        have e : (M ++ be8 N ++ pl).length = m + 8 + N := by rw [List.length_append, List.length_append, be8_len, ← Hm.out, ← HN.out]
        rw [e]
        have q := hown4
        rw [← ints_app] at q
        exact q
      clear hown4 hgrow4 hq4 HQ HO4
      go_wp2
      go_roundw
      case rel => exact ⟨k + 1, by omega, by go_num, HP4.out⟩
      case measure => simp [intOf]; omega
    · have e : k = ps.length := by omega
      subst e
      go_wp2
      go_ret
      have q := HR.out.1
      rw [List.take_length] at q
      exact res_of q HR.out.2
end Go.Proofs.YtidpihpddkfhgaaDoor
