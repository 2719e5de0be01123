/- Polys modulo 8380417, as the chapter reckons with them: there and back, and products. Nothing of the program. -/
import Derived.Test.YtneopnlklhcopaaMore
namespace Go.Proofs.Ytneopnlklhcopaa.Ring

abbrev F := Fin 8380417
def phi (x : Int) : F := ⟨(x % 8380417).toNat, by omega⟩

theorem phi_val (x : Int) : ((phi x).val : Int) = x % 8380417 := by show (((x % 8380417).toNat : Nat) : Int) = _; omega
theorem phi_ext {x y : Int} (h : x % 8380417 = y % 8380417) : phi x = phi y := by unfold phi; congr 1; rw [h]
theorem phi_of (x : Int) : phi (rOf x) = phi x := phi_ext (by unfold rOf; omega)
theorem phi_inj {x y : Int} (h : phi x = phi y) (x0 : 0 ≤ x) (x1 : x ≤ 8380416) (y0 : 0 ≤ y) (y1 : y ≤ 8380416) : x = y := by
  have := congrArg (fun a : F => (a.val : Int)) h
  simp only [phi_val] at this
  omega
theorem val_eq {a b : F} (h : a.val = b.val) : a = b := Fin.ext h
theorem phi_add (x y : Int) : phi (x + y) = phi x + phi y := by
  apply val_eq
  have h := phi_val (x + y); have hx := phi_val x; have hy := phi_val y
  have e : (phi x + phi y).val = ((phi x).val + (phi y).val) % 8380417 := rfl
  rw [e]; omega
theorem phi_sub (x y : Int) : phi (x - y) = phi x - phi y := by
  apply val_eq
  have h := phi_val (x - y); have hx := phi_val x; have hy := phi_val y
  have e : (phi x - phi y).val = (8380417 - (phi y).val + (phi x).val) % 8380417 := rfl
  have := (phi y).isLt
  rw [e]; omega
theorem phi_mul (x y : Int) : phi (x * y) = phi x * phi y := by
  apply val_eq
  have h := phi_val (x * y); have hx := phi_val x; have hy := phi_val y
  have e : (phi x * phi y).val = (phi x).val * (phi y).val % 8380417 := rfl
  have g : ((((phi x).val * (phi y).val : Nat)) : Int) % 8380417 = (x * y) % 8380417 := by
    rw [Int.natCast_mul, hx, hy, ← Int.mul_emod]
  rw [e]; omega
theorem phi_rAdd (x y : Int) : phi (rAdd x y) = phi x + phi y := by unfold rAdd; rw [phi_of, phi_add]
theorem phi_rSub (x y : Int) : phi (rSub x y) = phi x - phi y := by unfold rSub; rw [phi_of, phi_sub]
theorem phi_rMul (x y : Int) : phi (rMul x y) = phi x * phi y := by unfold rMul; rw [phi_of, phi_mul]

abbrev V := Nat → F
def zr (i : Nat) : F := phi (rRoot i)
def Same (f g : V) : Prop := ∀ p, p < 256 → f p = g p
theorem Same.refl (f : V) : Same f f := fun _ _ => rfl
theorem Same.symm {f g : V} (h : Same f g) : Same g f := fun p hp => (h p hp).symm
theorem Same.trans {f g h : V} (a : Same f g) (b : Same g h) : Same f h := fun p hp => (a p hp).trans (b p hp)

def overL (L : Nat) (f : V) : V := fun p => if p % (2 * L) < L then f p + zr (128 / L + p / (2 * L)) * f (p + L) else f (p - L) - zr (128 / L + p / (2 * L)) * f p
def backL (L : Nat) (f : V) : V := fun p => if p % (2 * L) < L then f p + f (p + L) else zr (256 / L - 1 - p / (2 * L)) * (f p - f (p - L))
def vOver (f : V) : V := overL 1 (overL 2 (overL 4 (overL 8 (overL 16 (overL 32 (overL 64 (overL 128 f)))))))
def vBack (f : V) : V := fun p => 8347681 * backL 128 (backL 64 (backL 32 (backL 16 (backL 8 (backL 4 (backL 2 (backL 1 f))))))) p
def zeta (i : Nat) : F := phi (rPow 1753 (2 * turn i + 1))
def vTimes (f g : V) : V := fun p => f p * g p
def vAdd (f g : V) : V := fun p => f p + g p
def vSub (f g : V) : V := fun p => f p - g p
def vMul (c : F) (f : V) : V := fun p => c * f p
def Lev (L : Nat) : Prop := L = 1 ∨ L = 2 ∨ L = 4 ∨ L = 8 ∨ L = 16 ∨ L = 32 ∨ L = 64 ∨ L = 128

theorem pair_all : (List.range 255).all (fun k => zr (k + 1) * zr (3 * 2 ^ (k + 1).log2 - 1 - (k + 1)) == 8380416) = true := by decide +kernel
theorem square_all : (List.range 255).all (fun k => zr (k + 1) * zr (k + 1) == if (k + 1) % 2 = 0 then zr ((k + 1) / 2) else 0 - zr ((k + 1) / 2)) = true := by decide +kernel
theorem zeta_all : (List.range 256).all (fun b => zeta b == if b % 2 = 0 then zr (128 + b / 2) else 0 - zr (128 + b / 2)) = true := by decide +kernel
end Go.Proofs.Ytneopnlklhcopaa.Ring
