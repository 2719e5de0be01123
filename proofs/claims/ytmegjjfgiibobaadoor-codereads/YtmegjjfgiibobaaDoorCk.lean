/- Errors by their numbers; what is asked of the program's own functions (each is proved where the landed code is walked). -/
import Derived.Test.YtmegjjfgiibobaaDoorCj
import Derived.Test.YtmegjjfgiibobaaDoorCg
import Derived.Test.YtmegjjfgiibobaaDoorCh
import Derived.Test.YtmegjjfgiibobaaDoorEi
namespace Go.Proofs.YtmegjjfgiibobaaDoor
open Go.RowKit Slices Go.Proofs.YtmegjjfgiibobaaDoor.Bit

/-- an error whose number is c, wrapped once; of 0 none -/
def IsErr (c : Int) (v : Value) (w : World) : Prop := (c = 0 ∧ v = .nilIface) ∨ (c ≠ 0 ∧ ∃ (q : Nat) (p : Addr), v = .iface 83 (.pointer (some ⟨q, 0, none⟩)) ∧ w.cell? ⟨q, 1, none⟩ = some (.iface 58 (.pointer (some p))) ∧ w.cell? p = some (.int .i64 c))
theorem IsErr.next {c : Int} {v : Value} {w w' : World} (h : IsErr c v w) (hb : Below w.heap.size w w') : IsErr c v w' := by
  rcases h with h | ⟨h0, q, p, hv, hq, hc⟩
  · exact .inl h
  · exact .inr ⟨h0, q, p, hv, cell_below hq hb, cell_below hc hb⟩
theorem num_any (c : Int) (v : Value) (w : World) (hg : Han w) (h : IsErr c v w) :
    Calls Tryd.prog 28 #[v] w fun ev w' => ev = .returned (.int .i64 c) ∧ Below w.heap.size w w' := by
  rcases h with ⟨rfl, rfl⟩ | ⟨h0, q, p, rfl, hq, hc⟩
  · exact (num_nil w).mono fun e w' h => ⟨h.1, by rw [h.2]; exact Below.refl _ _⟩
  · exact num_w q p c w hg hq hc h0

/-- what may be appended to -/
def Base (w : World) (A : Option Addr) (n c : Nat) (b : List Int) : Prop := n = b.length ∧ Has .u8 w w.heap.size A b ∧ (A = none → n = 0 ∧ c = 0) ∧ n ≤ c ∧ n ≤ 10000
theorem Base.next {w w' : World} {A : Option Addr} {n c : Nat} {b : List Int} (h : Base w A n c b) (hb : Below w.heap.size w w') : Base w' A n c b := ⟨h.1, has_next h.2.1 hb, h.2.2⟩
theorem own_cap {t : TypeId} {w : World} {B n c : Nat} {A : Option Addr} {xs : List Value} (h : w.ownsRow B t 1 (.slice A n c) n xs) : n ≤ c := by
  rcases h.2 with ⟨hv, h0⟩ | ⟨g, c', cur, hv, _, _, hc, _⟩
  · omega
  · injection hv with h1 h2 h3
    omega
theorem Base.of {w : World} {B n c : Nat} {A : Option Addr} {b : List Int} (h : w.ownsRow B 5 1 (.slice A n c) n (ints .u8 b)) (hn : n ≤ 10000) : Base w A n c b :=
  have hl := own_len h
  ⟨hl.symm, own_readn hl.symm h, own_none h, own_cap h, hn⟩
theorem base_nil (w : World) : Base w none 0 0 [] := ⟨rfl, Has.nil _ _ _ _, fun _ => ⟨rfl, rfl⟩, Nat.le_refl _, Nat.zero_le _⟩
/-- how many bytes are left -/
def leftI (l : List Int) (bad : Bool) : Int := if bad then 0 else (l.length : Int)
/-- the end's number -/
def endI (l : List Int) (bad : Bool) : Int := if bad = true ∨ 0 < l.length then 4 else 0

/-- what is asked of the program's functions: each is a contract; pr B U g l bad w: a reader at block g, all of whose memory lies from block B on, below block U, has l left -/
structure CodeOk (pr : Nat → Nat → Nat → List Int → Bool → World → Prop) : Prop where
  number : ∀ (A A' : Option Addr) (n c n' c' : Nat) (b ns : List Int) (w : World), Base w A n c b → n' = ns.length → Has .i64 w w.heap.size A' ns → (A' = none → n' = 0 ∧ c' = 0) → n' ≤ c' → n' ≤ 100 →
    Calls Tryd.prog 10 #[.slice A n c, .slice A' n' c'] w (Res .u8 5 w (b ++ beL ns))
  bytes : ∀ (A A' : Option Addr) (n c n' c' : Nat) (b : List Int) (ps : List Piece) (w : World), Base w A n c b → n' = ps.length → HasP w w.heap.size A' ps → (A' = none → n' = 0 ∧ c' = 0) → n' ≤ c' → n' ≤ 4 → (∀ k (h : k < ps.length), ps[k].l.length ≤ 4000) → (∀ k (h : k < ps.length), ps[k].l.length ≤ ps[k].c) →
    Calls Tryd.prog 11 #[.slice A n c, .slice A' n' c'] w (Res .u8 5 w (b ++ partsB (bytesOf ps)))
  text : ∀ (A : Option Addr) (n c : Nat) (b : List Int) (s : ByteArray) (w : World), Base w A n c b → s.size ≤ 4000 →
    Calls Tryd.prog 12 #[.slice A n c, .string s] w (Res .u8 5 w (b ++ be8 s.size ++ strNums s))
  new : ∀ (A : Option Addr) (n c : Nat) (b : List Int) (w : World), Base w A n c b → Fit 8 b →
    Calls Tryd.prog 19 #[.slice A n c] w fun e w' => ∃ g U, e = .returned (.pointer (some ⟨g, 0, none⟩)) ∧ pr w.heap.size U g b false w' ∧ Below w.heap.size w w'
  lt : ∀ (B U g : Nat) (l : List Int) (bad : Bool) (w : World), pr B U g l bad w → B ≤ g ∧ g < U ∧ U ≤ w.heap.size
  keep : ∀ (B U g : Nat) (l : List Int) (bad : Bool) (w w' : World), pr B U g l bad w → w.heap.size ≤ w'.heap.size → (∀ i, B ≤ i → i < U → w'.heap[i]? = w.heap[i]?) → pr B U g l bad w'
  num_yes : ∀ (B U g : Nat) (l : List Int) (lo hi : Int) (w : World), pr B U g l false w → Fit 8 l → l.length ≤ 10000 → rdOk l false lo hi →
    Calls Tryd.prog 20 #[.pointer (some ⟨g, 0, none⟩), .int .i64 lo, .int .i64 hi] w fun e w' => e = .returned (.int .i64 (rdX l)) ∧ pr B U g (l.drop 8) false w' ∧ w.grownBy w' (some g)
  num_no : ∀ (B U g : Nat) (l : List Int) (bad : Bool) (lo hi : Int) (w : World), pr B U g l bad w → Fit 8 l → l.length ≤ 10000 → ¬ rdOk l bad lo hi →
    Calls Tryd.prog 20 #[.pointer (some ⟨g, 0, none⟩), .int .i64 lo, .int .i64 hi] w fun e w' => e = .returned (.int .i64 0) ∧ (∃ l', Fit 8 l' ∧ l'.length ≤ l.length ∧ pr B U g l' true w') ∧ w.grownBy w' (some g)
  bytes_yes : ∀ (B U g : Nat) (l : List Int) (most : Int) (w : World), pr B U g l false w → Fit 8 l → l.length ≤ 10000 → rdBOk l false most →
    Calls Tryd.prog 22 #[.pointer (some ⟨g, 0, none⟩), .int .i64 most] w fun e w' => ∃ A' c', e = .returned (.slice A' (rdX l).toNat c') ∧ w'.ownsRow w.heap.size 5 1 (.slice A' (rdX l).toNat c') (rdX l).toNat (ints .u8 ((l.drop 8).take (rdX l).toNat)) ∧ pr B U g (l.drop (8 + (rdX l).toNat)) false w' ∧ w.grownBy w' (some g)
  bytes_no : ∀ (B U g : Nat) (l : List Int) (bad : Bool) (most : Int) (w : World), pr B U g l bad w → Fit 8 l → l.length ≤ 10000 → ¬ rdBOk l bad most →
    Calls Tryd.prog 22 #[.pointer (some ⟨g, 0, none⟩), .int .i64 most] w fun e w' => e = .returned (.slice none 0 0) ∧ (∃ l', Fit 8 l' ∧ l'.length ≤ l.length ∧ pr B U g l' true w') ∧ w.grownBy w' (some g)
  text_yes : ∀ (B U g : Nat) (l : List Int) (most : Int) (w : World), pr B U g l false w → Fit 8 l → l.length ≤ 10000 → rdBOk l false most →
    Calls Tryd.prog 24 #[.pointer (some ⟨g, 0, none⟩), .int .i64 most] w fun e w' => e = .returned (.string (strOfNums ((l.drop 8).take (rdX l).toNat))) ∧ pr B U g (l.drop (8 + (rdX l).toNat)) false w' ∧ w.grownBy w' (some g)
  text_no : ∀ (B U g : Nat) (l : List Int) (bad : Bool) (most : Int) (w : World), pr B U g l bad w → Fit 8 l → l.length ≤ 10000 → ¬ rdBOk l bad most →
    Calls Tryd.prog 24 #[.pointer (some ⟨g, 0, none⟩), .int .i64 most] w fun e w' => e = .returned (.string (strOfNums [])) ∧ (∃ l', Fit 8 l' ∧ l'.length ≤ l.length ∧ pr B U g l' true w') ∧ w.grownBy w' (some g)
  left : ∀ (B U g : Nat) (l : List Int) (bad : Bool) (w : World), pr B U g l bad w →
    Calls Tryd.prog 26 #[.pointer (some ⟨g, 0, none⟩)] w fun e w' => e = .returned (.int .i64 (leftI l bad)) ∧ Below w.heap.size w w'
  ends : ∀ (B U g : Nat) (l : List Int) (bad : Bool) (w : World), pr B U g l bad w →
    Calls Tryd.prog 29 #[.pointer (some ⟨g, 0, none⟩)] w fun e w' => ∃ v, e = .returned v ∧ IsErr (endI l bad) v w' ∧ Below w.heap.size w w'
  left_none : ∀ w : World, Calls Tryd.prog 26 #[.pointer none] w fun e w' => e = .returned (.int .i64 0) ∧ Below w.heap.size w w'
  end_none : ∀ w : World, Calls Tryd.prog 29 #[.pointer none] w fun e w' => ∃ v, e = .returned v ∧ IsErr 1 v w' ∧ Below w.heap.size w w'

/-- a reader is as it was where what is below is -/
theorem CodeOk.next {pr : Nat → Nat → Nat → List Int → Bool → World → Prop} (P : CodeOk pr) {B U g : Nat} {l : List Int} {bad : Bool} {w w' : World} (h : pr B U g l bad w) (hb : Below w.heap.size w w') : pr B U g l bad w' :=
  P.keep B U g l bad w w' h hb.size fun i _ hi => hb.block i (Nat.lt_of_lt_of_le hi (P.lt B U g l bad w h).2.2)
theorem CodeOk.far {pr : Nat → Nat → Nat → List Int → Bool → World → Prop} (P : CodeOk pr) {B U g : Nat} {l : List Int} {bad : Bool} {w w' : World} {row : Option Nat} (h : pr B U g l bad w) (hg : w.grownBy w' row) (hr : ∀ q, row = some q → q < B ∨ U ≤ q) : pr B U g l bad w' :=
  P.keep B U g l bad w w' h hg.size fun i h0 hi => hg.block i (Nat.lt_of_lt_of_le hi (P.lt B U g l bad w h).2.2) (fun e => by have := hr i e.symm; omega)
theorem below_grown {w0 w w' : World} {g : Nat} (h : Below w0.heap.size w0 w) (hg : w.grownBy w' (some g)) (hlo : w0.heap.size ≤ g) : Below w0.heap.size w0 w' := h.grown hg h.size (fun q e => by injection e with e; omega)
end Go.Proofs.YtmegjjfgiibobaaDoor
