package ring

import (
	"math"
	"math/big"
	"testing"
)

const prime = 3329

// far are numbers at and about multiples of q and powers of 2, and the ends of the whole numbers.
func far() []int {
	near := []int{0, 1 << 31, 1 << 32, 1 << 40, 1 << 53, 1 << 61, 1 << 62}
	for _, k := range []int{1, 2, 3, 1000, 3328, 3329, 3330, math.MaxInt / prime} {
		near = append(near, k*prime)
	}
	found := []int{math.MinInt, math.MinInt + 1, math.MinInt + prime, math.MaxInt, math.MaxInt - 1, math.MaxInt - prime}
	for _, n := range near {
		found = append(found, n-2, n-1, n, n+1, n+2, -n-2, -n-1, -n, -n+1, -n+2)
	}
	return append(found, 17, 832, 833, 1664, 1665, -1664, -1665, 2496, 2497)
}

// modulo is what is left of a great number, never below 0.
func modulo(x *big.Int) int {
	return int(new(big.Int).Mod(x, big.NewInt(prime)).Int64())
}

func great(x int) *big.Int { return big.NewInt(int64(x)) }

func TestExamples(t *testing.T) {
	if got := Root(1); got != 1729 {
		t.Errorf("P3.1: Root(1) is %d, not 1729", got)
	}
	if got := Squash(1, 833); got != 1 {
		t.Errorf("P3.2: Squash(1, 833) is %d, not 1", got)
	}
	if got := Stretch(1, 1); got != 1665 {
		t.Errorf("P3.2: Stretch(1, 1) is %d, not 1665", got)
	}
}

func TestOfInOrder(t *testing.T) {
	want := 0
	for x := -5 * prime; x <= 5*prime; x++ {
		if got := Of(x); got != want {
			t.Fatalf("P3.1: Of(%d) is %d, not %d", x, got, want)
		}
		if want++; want == prime {
			want = 0
		}
	}
}

func TestOfFarNumbers(t *testing.T) {
	for _, x := range far() {
		if got, want := Of(x), modulo(great(x)); got != want {
			t.Errorf("P3.1: Of(%d) is %d, not %d", x, got, want)
		}
	}
}

func TestAddSubMulOfEachPairBelowQ(t *testing.T) {
	for a := range prime {
		for b := a % 7; b < prime; b += 7 {
			sum, less := a+b, a-b
			if sum >= prime {
				sum -= prime
			}
			if less < 0 {
				less += prime
			}
			product := a * b
			product -= product / prime * prime
			if Add(a, b) != sum || Sub(a, b) != less || Mul(a, b) != product {
				t.Fatalf("P3.1: Add, Sub, Mul of %d and %d are %d, %d, %d, not %d, %d, %d",
					a, b, Add(a, b), Sub(a, b), Mul(a, b), sum, less, product)
			}
		}
	}
}

func TestAddSubMulOfFarNumbers(t *testing.T) {
	for _, a := range far() {
		for _, b := range far() {
			if got, want := Add(a, b), modulo(new(big.Int).Add(great(a), great(b))); got != want {
				t.Errorf("P3.1: Add(%d, %d) is %d, not %d", a, b, got, want)
			}
			if got, want := Sub(a, b), modulo(new(big.Int).Sub(great(a), great(b))); got != want {
				t.Errorf("P3.1: Sub(%d, %d) is %d, not %d", a, b, got, want)
			}
			if got, want := Mul(a, b), modulo(new(big.Int).Mul(great(a), great(b))); got != want {
				t.Errorf("P3.1: Mul(%d, %d) is %d, not %d", a, b, got, want)
			}
		}
	}
}

func TestPowOneByOne(t *testing.T) {
	for _, a := range []int{0, 1, 2, 3, 17, 1729, 3327, 3328, 3329, 3330, -1, -2, -3329, math.MinInt, math.MaxInt} {
		want := 1
		for n := range 2*prime + 3 {
			if got := Pow(a, n); got != want {
				t.Fatalf("P3.1: Pow(%d, %d) is %d, not %d", a, n, got, want)
			}
			want = modulo(great(want * modulo(great(a))))
		}
	}
}

func TestPowOfFarNumbers(t *testing.T) {
	for _, a := range far() {
		if got := Pow(a, 0); got != 1 {
			t.Errorf("P3.1: Pow(%d, 0) is %d, not 1", a, got)
		}
		if got, want := Pow(a, 1), modulo(great(a)); got != want {
			t.Errorf("P3.1: Pow(%d, 1) is %d, not %d", a, got, want)
		}
		for _, n := range far() {
			want := 0
			if n >= 0 {
				want = int(new(big.Int).Exp(great(modulo(great(a))), great(n), great(prime)).Int64())
			}
			if got := Pow(a, n); got != want {
				t.Errorf("P3.1: Pow(%d, %d) is %d, not %d", a, n, got, want)
			}
		}
	}
}

func TestPowBelowZero(t *testing.T) {
	for _, n := range []int{-1, -2, -3328, -3329, math.MinInt, math.MinInt + 1} {
		for _, a := range []int{0, 1, 17, 3328, -1, math.MaxInt} {
			if got := Pow(a, n); got != 0 {
				t.Errorf("P3.1: Pow(%d, %d) is %d, not 0", a, n, got)
			}
		}
	}
}

// slowRoot goes by the chapter's words: bit k of i is bit 6 - k of the exponent.
func slowRoot(i int) int {
	exponent := 0
	for k := range 7 {
		if uint64(i)>>k&1 == 1 {
			exponent += 1 << (6 - k)
		}
	}
	root := 1
	for range exponent {
		root = root * 17 % prime
	}
	return root
}

func TestRoot(t *testing.T) {
	numbers := far()
	for i := -1000; i <= 1000; i++ {
		numbers = append(numbers, i)
	}
	for _, i := range numbers {
		if got, want := Root(i), slowRoot(i); got != want {
			t.Errorf("P3.1: Root(%d) is %d, not %d", i, got, want)
		}
	}
}

func TestRootsAtTheEdges(t *testing.T) {
	for _, x := range []struct{ i, want int }{{0, 1}, {1, 1729}, {2, 2580}, {64, 17}, {126, 885}, {127, 2154},
		{128, 1}, {129, 1729}, {192, 17}, {255, 2154}, {256, 1}, {-1, 2154}, {-64, 17}, {-127, 1729}, {-128, 1},
		{math.MinInt, 1}, {math.MaxInt, 2154}} {
		if got := Root(x.i); got != x.want {
			t.Errorf("P3.1: Root(%d) is %d, not %d", x.i, got, x.want)
		}
	}
}

func TestRootsAreRoots(t *testing.T) {
	seen := map[int]int{}
	for i := range 128 {
		r := Root(i)
		if other, found := seen[r]; found {
			t.Errorf("P3.1: Root(%d) is Root(%d)", i, other)
		}
		seen[r] = i
		if Pow(r, 256) != 1 {
			t.Errorf("P3.1: Root(%d) to the 256 is %d", i, Pow(r, 256))
		}
	}
}

// nearest is top / bottom, rounded by its distance to the whole numbers on both sides; a half up.
func nearest(top, bottom int) int {
	below := top / bottom
	if top-below*bottom < (below+1)*bottom-top {
		return below
	}
	return below + 1
}

func TestSquashOfEachNumber(t *testing.T) {
	for d := 1; d <= 11; d++ {
		for x := range prime {
			want := nearest(x<<d, prime)
			if want == 1<<d {
				want = 0
			}
			for _, same := range []int{x, x - prime, x + prime, x - 1000*prime, x + 1000*prime} {
				if got := Squash(d, same); got != want {
					t.Fatalf("P3.2: Squash(%d, %d) is %d, not %d", d, same, got, want)
				}
			}
		}
	}
}

func TestStretchOfEachNumber(t *testing.T) {
	for d := 1; d <= 11; d++ {
		for y := range 1 << d {
			want := nearest(prime*y, 1<<d)
			for _, same := range []int{y, y - 1<<d, y + 1<<d, y - 1000<<d, y + 1000<<d, y + math.MinInt} {
				if got := Stretch(d, same); got != want {
					t.Fatalf("P3.2: Stretch(%d, %d) is %d, not %d", d, same, got, want)
				}
			}
		}
	}
}

func TestSquashAndStretchOfFarNumbers(t *testing.T) {
	for d := 1; d <= 11; d++ {
		for _, x := range far() {
			want := nearest(modulo(great(x))<<d, prime) % (1 << d)
			if got := Squash(d, x); got != want {
				t.Errorf("P3.2: Squash(%d, %d) is %d, not %d", d, x, got, want)
			}
			left := int(new(big.Int).Mod(great(x), great(1<<d)).Int64())
			if got, want := Stretch(d, x), nearest(prime*left, 1<<d); got != want {
				t.Errorf("P3.2: Stretch(%d, %d) is %d, not %d", d, x, got, want)
			}
		}
	}
}

func TestSquashAboutHalfAStep(t *testing.T) {
	for _, x := range []struct{ d, x, want int }{
		{1, 832, 0}, {1, 833, 1}, {1, 2496, 1}, {1, 2497, 0}, {1, 3328, 0},
		{2, 416, 0}, {2, 417, 1}, {2, 1248, 1}, {2, 1249, 2}, {2, 2912, 3}, {2, 2913, 0},
		{4, 104, 0}, {4, 105, 1}, {4, 3224, 15}, {4, 3225, 0},
		{5, 52, 0}, {5, 53, 1}, {5, 3276, 31}, {5, 3277, 0},
		{10, 1, 0}, {10, 2, 1}, {10, 3327, 1023}, {10, 3328, 0},
		{11, 0, 0}, {11, 1, 1}, {11, 3328, 2047}, {11, 3329, 0}, {11, -1, 2047}} {
		if got := Squash(x.d, x.x); got != x.want {
			t.Errorf("P3.2: Squash(%d, %d) is %d, not %d", x.d, x.x, got, x.want)
		}
	}
}

// A half is there wherever y is an odd number of halves of a step: q is odd.
func TestStretchOfAHalfGoesUp(t *testing.T) {
	for d := 1; d <= 11; d++ {
		half := 1 << (d - 1)
		if got, want := Stretch(d, half), (prime+1)/2; got != want {
			t.Errorf("P3.2: Stretch(%d, %d) is %d, not %d", d, half, got, want)
		}
	}
	for _, x := range []struct{ d, y, want int }{{2, 1, 832}, {2, 3, 2497}, {3, 1, 416}, {3, 7, 2913},
		{4, 1, 208}, {4, 15, 3121}, {10, 1, 3}, {10, 1023, 3326}, {11, 1, 2}, {11, 2047, 3327}} {
		if got := Stretch(x.d, x.y); got != x.want {
			t.Errorf("P3.2: Stretch(%d, %d) is %d, not %d", x.d, x.y, got, x.want)
		}
	}
}

func TestNoSuchWidth(t *testing.T) {
	for _, d := range []int{0, -1, -2, -11, -64, -1 << 32, math.MinInt, math.MinInt + 1, 12, 13, 31, 32, 62, 63, 64,
		65, 1 << 32, 1<<32 + 1, math.MaxInt} {
		for _, x := range append(far(), 1, 833, 2000) {
			if got := Squash(d, x); got != 0 {
				t.Errorf("P3.2: Squash(%d, %d) is %d, not 0", d, x, got)
			}
			if got := Stretch(d, x); got != 0 {
				t.Errorf("P3.2: Stretch(%d, %d) is %d, not 0", d, x, got)
			}
		}
	}
}

func TestSquashOfStretch(t *testing.T) {
	for d := 1; d <= 11; d++ {
		for y := range 1 << d {
			if got := Squash(d, Stretch(d, y)); got != y {
				t.Errorf("P3.2: Squash of Stretch(%d, %d) is %d", d, y, got)
			}
		}
	}
}

var sink int

func BenchmarkMul(b *testing.B) {
	for i := range b.N {
		sink = Mul(i, sink)
	}
}

func BenchmarkRoot(b *testing.B) {
	for i := range b.N {
		sink = Root(i)
	}
}
