/- Squashed and stretched, number by number: what holds for each width from 1 to 11 and each number. -/
import Derived.Test.YtlaejnbkgikfcaaDoorMore
namespace Go.Proofs.YtlaejnbkgikfcaaDoor.Ring

def stepOf (P : Int) : Int := (3329 + 2 * P - 1) / (2 * P)
def halfOf (P : Int) : Int := (3329 * (2 * P - 1) + 2 * P - 1) / (2 * P)

def nearB (d x : Nat) : Bool :=
  decide (0 ≤ rSquash d x) && decide (rSquash d x < 2 ^ d) &&
    (decide (rSub (rStretch d (rSquash d x)) x ≤ stepOf (2 ^ d) + 1) || decide (3329 - rSub (rStretch d (rSquash d x)) x ≤ stepOf (2 ^ d) + 1))
def backB (d y : Nat) : Bool := rSquash d (rStretch d y) == y
def stepsB (d y : Nat) : Bool := decide (3329 / 2 ^ d ≤ rStretch d (y + 1) - rStretch d y) && decide (rStretch d (y + 1) - rStretch d y ≤ 3329 / 2 ^ d + 1)
def risesB (d x : Nat) : Bool :=
  rSquash d (x + 1) == rSquash d x || rSquash d (x + 1) == rSquash d x + 1 || (rSquash d (x + 1) == 0 && rSquash d x == 2 ^ d - 1)
def halfB (d x : Nat) : Bool := decide ((x : Int) < halfOf (2 ^ d)) == (decide (0 < rSquash d x) || decide ((x : Int) * (2 * 2 ^ d) < 3329))

theorem near_all : (List.range 11).all (fun e => (List.range 3329).all fun x => nearB (e + 1) x) = true := by decide +kernel
theorem back_all : (List.range 11).all (fun e => (List.range (2 ^ (e + 1))).all fun y => backB (e + 1) y) = true := by decide +kernel
theorem steps_all : (List.range 11).all (fun e => (List.range (2 ^ (e + 1) - 1)).all fun y => stepsB (e + 1) y) = true := by decide +kernel
theorem rises_all : (List.range 11).all (fun e => (List.range 3328).all fun x => risesB (e + 1) x) = true := by decide +kernel
theorem half_all : (List.range 11).all (fun e => (List.range 3328).all fun x => halfB (e + 1) x) = true := by decide +kernel

end Go.Proofs.YtlaejnbkgikfcaaDoor.Ring
