/- Contract: bytes' poly within bounds, by the document's own code. -/
import Derived.Test.YtoigpehpgpogfaaDoorLc
namespace Go.Proofs.YtoigpehpgpogfaaDoor
open Go.RowKit Slices Go.Proofs.YtoigpehpgpogfaaDoor.Bit

theorem unpack_lt {d : Nat} {b : List Int} (h1 : 1 ≤ d) (h2 : d ≤ 24) {k : Nat} (hk : k < (unpackI d b).length) : 0 ≤ (unpackI d b).getD k 0 ∧ (unpackI d b).getD k 0 ≤ 16777215 := by
  rw [unpackI_yes b h1 h2] at hk ⊢
  rw [int_len, unpackN_len] at hk
  rw [int_at, unpackN_at d _ hk]
  have h3 := num_lt (fun j => strm 8 (nat b) (k * d + j)) d
  have h4 := pow_le24 h2
  omega
theorem unpackI_len {d : Nat} (b : List Int) (h1 : 1 ≤ d) (h2 : d ≤ 24) : (unpackI d b).length = 8 * b.length / d := by
  rw [unpackI_yes b h1 h2, int_len, unpackN_len, nat_len]
/-- the first k numbers are turned, in place -/
def FRow (w : World) (b : Int) (l : List Int) (g n c k : Nat) (wr : World) : Prop :=
  wr.ownsRow w.heap.size 3 1 (.slice (some ⟨g, 0, none⟩) n c) n (ints .i64 (farTo b l k)) ∧ Below w.heap.size w wr

set_option maxRecDepth 100000 in
set_option maxHeartbeats 2000000 in
theorem refFar_in (a b : Int) (A : Option Addr) (c : Nat) (l : List Int) (w : World) (h : Has .u8 w w.heap.size A l) (hf : Fit 8 l) (hw : 1 ≤ widthI a b) (hl : l.length = 32 * widthI a b) :
    Calls Tryd.prog 20 #[.int .i64 a, .int .i64 b, .slice A l.length c] w (Res .i64 3 w (farI a b l)) := by
  rw [far_yes ⟨hw, hl⟩]
  have hd := width_le a b
  obtain ⟨a0, b0, a1, b1⟩ := width_bounds hw
  have H := Lib.hid h
  have HF := Lib.hid hf
  obtain ⟨D, hD⟩ : ∃ D, D = widthI a b := ⟨_, rfl⟩
  have HD := Lib.hid hD
  rw [← hD] at hw hd hl ⊢
  have t0 : ((D : Int) == 0) = false := by rw [beq_eq_false_iff_ne]; omega
  have t1 : ((l.length : Int) != 32 * (D : Int)) = false := by rw [bne_eq_false_iff_eq]; omega
  have hlen : (unpackI D l).length = 256 := by
    rw [unpackI_len l hw (by omega), hl]
    have : 8 * (32 * D) = 256 * D := by omega
    rw [this, Nat.mul_div_cancel _ (by omega)]
  have hll : l.length ≤ 704 := by omega
  have HLT : Hid (∀ k, k < 256 → 0 ≤ (unpackI D l).getD k 0 ∧ (unpackI D l).getD k 0 ≤ 16777215) := fun k hk => unpack_lt hw (by omega) (by rw [hlen]; exact hk)
  have HLEN := Lib.hid hlen
  clear h hf hD hl hlen
  go_enter Tryd.func20, Tryd.ntmps20
  go_wp2_with (first
    | (go_at_call 45; refine (width_any a b _).mono ?_; rw [← HD.out]; rintro e w' ⟨rfl, rfl⟩)
    | (go_at_call 48; refine (refUnpack_any (D : Int) A c l.length l _ rfl H.out (by omega) HF.out).mono ?_; rintro e w1 ⟨A1, c1, rfl, ho, hb⟩; have HO := Lib.hid ho; have HB := Lib.hid hb; clear ho hb))
  generalize hu : unpackI (D : Int) l = u at HLT HLEN HO
  have HU := Lib.hid hu
  clear hu
  obtain ⟨N, hN⟩ : ∃ N, N = u.length := ⟨_, rfl⟩
  have N0 : N ≤ 256 := by have := HLEN.out; omega
  have N1 : 256 ≤ N := by have := HLEN.out; omega
  have ho := HO.out
  rw [← hN] at ho ⊢
  obtain ⟨g, cg, e, hg⟩ := own_form ho (by omega)
  injection e with e1 e2 e3
  subst e1
  subst e3
  have HS : Hid (FRow w b u g N c1 0 w1) := ⟨by rw [farTo_zero]; exact ho, HB.out⟩
  have HNN := Lib.hid hN
  clear ho hN HO HB e2
  go_loopw [9] (fun i wr => ∃ k : Nat, k ≤ N ∧ i = .int .i64 k ∧ FRow w b u g N c1 k wr) (fun i _ => N - (intOf i).toNat)
  case atStart => exact ⟨0, by omega, rfl, HS.out⟩
  case round =>
    obtain ⟨k, hk, rfl, hrow⟩ := hrel
    have HR := Lib.hid hrow
    clear hrow HS
    by_cases hlt : k < N
    · have hku : k < u.length := by have := HNN.out; omega
      obtain ⟨x0, x1⟩ := HLT.out k (by omega)
      have cX := own_cell HR.out.1 (k := k) (by omega)
      rw [farTo_at b u hku] at cX
      have fX := HR.out.1.frozenAt k
      have hnx : FRow w b u g N c1 (k + 1) (wr.setCell ⟨g, k, none⟩ (.int .i64 (rOf (b - u.getD k 0)))) := by
        refine ⟨?_, HR.out.2.setCell (own_block HR.out.1).1 _⟩
        rw [← farTo_next b u hku]
        exact own_set HR.out.1 k _
      have HNX := Lib.hid hnx
      clear hnx
      generalize u.getD k 0 = X at cX x0 x1 HNX
      go_wp2_with (go_at_call 49; refine (refOf_any _ _).mono ?_; rintro e w' ⟨rfl, rfl⟩)
      go_roundw
      case rel => exact ⟨k + 1, by omega, by go_num, HNX.out⟩
      case measure => simp [intOf]; omega
    · have e : k = u.length := by have := HNN.out; omega
      have HE := Lib.hid e
      clear e
      go_wp2
      go_ret
      have hr := HR.out
      unfold FRow at hr
      rw [HE.out, farTo_all] at hr
      rw [HU.out]
      exact res_of hr.1 hr.2

theorem refFar_any (a b : Int) (A : Option Addr) (c n : Nat) (l : List Int) (w : World) (hn : n = l.length) (h : Has .u8 w w.heap.size A l) (hf : Fit 8 l) (_hl : l.length ≤ 4000) :
    Calls Tryd.prog 20 #[.int .i64 a, .int .i64 b, .slice A n c] w (Res .i64 3 w (farI a b l)) := by
  subst hn
  by_cases hw : 1 ≤ widthI a b
  · by_cases hl2 : l.length = 32 * widthI a b
    · exact refFar_in a b A c l w h hf hw hl2
    · rw [far_no fun g => hl2 g.2]
      have hd := width_le a b
      obtain ⟨D, hD⟩ : ∃ D, D = widthI a b := ⟨_, rfl⟩
      have HD := Lib.hid hD
      rw [← hD] at hw hd hl2
      have t0 : ((D : Int) == 0) = false := by rw [beq_eq_false_iff_ne]; omega
      have t1 : ((l.length : Int) != 32 * (D : Int)) = true := by rw [bne_iff_ne]; omega
      clear h hD hf
      go_enter Tryd.func20, Tryd.ntmps20
      go_wp2_with (go_at_call 45; refine (width_any a b _).mono ?_; rw [← HD.out]; rintro e w' ⟨rfl, rfl⟩)
      go_ret
      exact res_nil rfl (Below.refl _ _)
  · rw [far_no fun g => hw g.1]
    have hD : widthI a b = 0 := by omega
    have HD := Lib.hid hD
    clear hw hD h hf
    go_enter Tryd.func20, Tryd.ntmps20
    go_wp2_with (go_at_call 45; refine (width_any a b _).mono ?_; rw [HD.out]; rintro e w' ⟨rfl, rfl⟩)
    go_ret
    exact res_nil rfl (Below.refl _ _)
end Go.Proofs.YtoigpehpgpogfaaDoor
