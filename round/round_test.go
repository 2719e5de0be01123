package round

import (
	"math"
	"math/big"
	"sync"
	"testing"
)

const prime = 8380417

// halves are the two g that there are.
var halves = []int{95232, 261888}

// noHalves are numbers that are no g, some of them close to one.
func noHalves() []int {
	found := []int{0, 1, -1, 2, 3, 7, 4096, 8192, math.MinInt, math.MinInt + 1, math.MaxInt, math.MaxInt - 1, 1 << 32, 1 << 62, -1 << 62, prime - 1, prime, prime + 1, (prime - 1) / 2}
	for _, g := range halves {
		found = append(found, g-1, g+1, -g, 2*g, 2*g-1, 2*g+1, g/2, g+prime, g-prime, g+1<<32, g+math.MinInt)
	}
	return found
}

// far are numbers at and about multiples of q, of half of it and of the powers of 2, and the ends of the whole numbers.
func far() []int {
	near := []int{0, prime / 2, 4096, 8192, 1 << 22, 1 << 23, 1 << 31, 1 << 32, 1 << 39, 1 << 40, 1 << 53, 1 << 61, 1 << 62}
	for _, k := range []int{1, 2, 3, 1000, prime - 1, prime, prime + 1, math.MaxInt/prime - 1} {
		near = append(near, k*prime, k*prime+prime/2)
	}
	for _, g := range halves {
		near = append(near, g, 2*g, 3*g, prime-g, prime-2*g)
	}
	found := []int{math.MinInt, math.MinInt + 1, math.MinInt + prime, math.MaxInt, math.MaxInt - 1, math.MaxInt - prime}
	for _, n := range near {
		found = append(found, n-2, n-1, n, n+1, n+2, -n-2, -n-1, -n, -n+1, -n+2)
	}
	return append(found, math.MaxInt/prime*prime, math.MinInt/prime*prime)
}

func great(x int) *big.Int { return big.NewInt(int64(x)) }

func left(x *big.Int, a int) int { return int(new(big.Int).Mod(x, great(a)).Int64()) }

// slowOf is x modulo q, by great numbers.
func slowOf(x *big.Int) int { return left(x, prime) }

// slowNear goes by the chapter's words.
func slowNear(a, x int) int {
	if a < 2 || a&1 == 1 || a > 1<<40 {
		return 0
	}
	found := left(great(x), a)
	if 2*found > a {
		found -= a
	}
	return found
}

// slowPart goes by the chapter's words.
func slowPart(g int, x *big.Int) (int, int) {
	if g != halves[0] && g != halves[1] {
		return 0, 0
	}
	r := slowOf(x)
	low := slowNear(2*g, r)
	if r-low == prime-1 {
		return 0, low - 1
	}
	return (r - low) / (2 * g), low
}

func slowHint(g, z, x int) int {
	before, _ := slowPart(g, great(x))
	after, _ := slowPart(g, new(big.Int).Add(great(x), great(z)))
	if before == after {
		return 0
	}
	return 1
}

func slowUse(g, h, x int) int {
	high, low := slowPart(g, great(x))
	if h != 1 || g != halves[0] && g != halves[1] {
		return high
	}
	m := map[int]int{halves[0]: 44, halves[1]: 16}[g]
	switch {
	case low > 0 && high == m-1:
		return 0
	case low > 0:
		return high + 1
	case high == 0:
		return m - 1
	}
	return high - 1
}

func TestExamples(t *testing.T) {
	if high, low := Split(8193); high != 1 || low != 1 {
		t.Errorf("P9.1: Split(8193) is %d, %d, not 1, 1", high, low)
	}
	if high, low := Part(95232, prime-1); high != 0 || low != -1 {
		t.Errorf("P9.2: Part(95232, q - 1) is %d, %d, not 0, -1", high, low)
	}
}

func TestOfInOrder(t *testing.T) {
	want := 0
	for x := -2 * prime; x <= 2*prime; x++ {
		if got := Of(x); got != want {
			t.Fatalf("P9.1: Of(%d) is %d, not %d", x, got, want)
		}
		if want++; want == prime {
			want = 0
		}
	}
}

func TestOfFarNumbers(t *testing.T) {
	for _, x := range far() {
		if got, want := Of(x), slowOf(great(x)); got != want {
			t.Errorf("P9.1: Of(%d) is %d, not %d", x, got, want)
		}
	}
}

func TestMulOfFarNumbers(t *testing.T) {
	for _, a := range far() {
		for _, b := range far() {
			if got, want := Mul(a, b), slowOf(new(big.Int).Mul(great(a), great(b))); got != want {
				t.Fatalf("P9.1: Mul(%d, %d) is %d, not %d", a, b, got, want)
			}
		}
	}
}

func TestMulBelowQ(t *testing.T) {
	for _, x := range []struct{ a, b, want int }{{0, 5, 0}, {1, 5, 5}, {2, 4190208, prime - 1}, {2, 4190209, 1},
		{prime - 1, prime - 1, 1}, {prime - 1, 1, prime - 1}, {prime, 7, 0}, {-1, 5, prime - 5}, {-3, -4, 12}, {8192, 1024, 8191}} {
		if got := Mul(x.a, x.b); got != x.want {
			t.Errorf("P9.1: Mul(%d, %d) is %d, not %d", x.a, x.b, got, x.want)
		}
	}
	for a := 0; a < prime; a += 9973 {
		for b := a % 7919; b < prime; b += 7919 {
			want := a * b
			want -= want / prime * prime
			if got := Mul(a, b); got != want {
				t.Fatalf("P9.1: Mul(%d, %d) is %d, not %d", a, b, got, want)
			}
		}
	}
}

func TestPowOneByOne(t *testing.T) {
	for _, a := range []int{0, 1, 2, 3, 1753, prime / 2, prime - 2, prime - 1, prime, prime + 1, -1, -2, -prime, math.MinInt, math.MaxInt} {
		want := 1
		for n := range 2000 {
			if got := Pow(a, n); got != want {
				t.Fatalf("P9.1: Pow(%d, %d) is %d, not %d", a, n, got, want)
			}
			want = slowOf(great(want * slowOf(great(a))))
		}
	}
}

func TestPowOfFarNumbers(t *testing.T) {
	for _, a := range far() {
		if got := Pow(a, 0); got != 1 {
			t.Errorf("P9.1: Pow(%d, 0) is %d, not 1", a, got)
		}
		if got, want := Pow(a, 1), slowOf(great(a)); got != want {
			t.Errorf("P9.1: Pow(%d, 1) is %d, not %d", a, got, want)
		}
		for _, n := range []int{2, 3, 255, 256, 512, prime - 2, prime - 1, prime, 1 << 32, 1 << 62, math.MaxInt - 1, math.MaxInt} {
			want := int(new(big.Int).Exp(great(slowOf(great(a))), great(n), great(prime)).Int64())
			if got := Pow(a, n); got != want {
				t.Errorf("P9.1: Pow(%d, %d) is %d, not %d", a, n, got, want)
			}
		}
	}
}

func TestPowBelowZero(t *testing.T) {
	for _, n := range []int{-1, -2, -256, -prime, 1 - prime, -1 << 32, math.MinInt, math.MinInt + 1} {
		for _, a := range []int{0, 1, 2, 1753, prime - 1, prime, -1, math.MinInt, math.MaxInt} {
			if got := Pow(a, n); got != 0 {
				t.Errorf("P9.1: Pow(%d, %d) is %d, not 0", a, n, got)
			}
		}
	}
}

func TestPowOfRoots(t *testing.T) {
	for _, x := range []struct{ a, n, want int }{{1753, 256, prime - 1}, {1753, 512, 1}, {2, 13, 8192}, {2, 23, 8191}, {10, prime - 1, 1}, {-1, math.MaxInt, prime - 1}} {
		if got := Pow(x.a, x.n); got != x.want {
			t.Errorf("P9.1: Pow(%d, %d) is %d, not %d", x.a, x.n, got, x.want)
		}
	}
}

func TestNearInOrder(t *testing.T) {
	for _, a := range []int{2, 4, 6, 10, 8192, 190464, 523776} {
		want := 0
		for x := -2 * a; x <= 3*a; x++ {
			if got := Near(a, x); got != want {
				t.Fatalf("P9.1: Near(%d, %d) is %d, not %d", a, x, got, want)
			}
			if want++; want == a/2+1 {
				want = -a/2 + 1
			}
		}
	}
}

func TestNearAboutHalfAStep(t *testing.T) {
	for _, a := range []int{2, 4, 6, 8, 8190, 8192, 8194, 190464, 523776, 1 << 32, 1<<39 + 2, 1<<40 - 2, 1 << 40} {
		for k := -9; k <= 9; k++ {
			for _, by := range []int{-2, -1, 0, 1, 2} {
				x := k*(a/2) + by
				if got, want := Near(a, x), slowNear(a, x); got != want {
					t.Errorf("P9.1: Near(%d, %d) is %d, not %d", a, x, got, want)
				}
			}
		}
	}
	for _, x := range []struct{ a, x, want int }{{8192, 4095, 4095}, {8192, 4096, 4096}, {8192, 4097, -4095}, {8192, -4095, -4095},
		{8192, -4096, 4096}, {8192, -4097, 4095}, {2, 0, 0}, {2, 1, 1}, {2, -1, 1}, {2, 2, 0}, {4, 2, 2}, {4, 3, -1}, {4, -2, 2}, {4, -1, -1},
		{1 << 40, 1 << 39, 1 << 39}, {1 << 40, 1<<39 + 1, 1 - 1<<39}, {1 << 40, -1 << 39, 1 << 39}, {1 << 40, 1 << 40, 0},
		{1 << 40, math.MaxInt, -1}, {1 << 40, math.MinInt, 0}, {2, math.MaxInt, 1}, {2, math.MinInt, 0}, {8192, math.MaxInt, -1}, {8192, math.MinInt + 1, 1}} {
		if got := Near(x.a, x.x); got != x.want {
			t.Errorf("P9.1: Near(%d, %d) is %d, not %d", x.a, x.x, got, x.want)
		}
	}
}

func TestNearOfFarNumbers(t *testing.T) {
	for _, a := range []int{2, 4, 6, 8192, 190464, 523776, prime - 1, 1<<40 - 2, 1 << 40} {
		for _, x := range far() {
			if got, want := Near(a, x), slowNear(a, x); got != want {
				t.Errorf("P9.1: Near(%d, %d) is %d, not %d", a, x, got, want)
			}
		}
	}
}

func TestNearOfNoStep(t *testing.T) {
	for _, a := range []int{1, 0, -1, -2, -4, -8192, -1 << 40, math.MinInt, math.MinInt + 1, 3, 5, 8191, 8193, 1<<40 - 1, 1<<40 + 1, 1<<40 + 2, 1 << 41, 1<<40 + 8192, 1 << 62, math.MaxInt, math.MaxInt - 1} {
		for _, x := range append(far(), 5, 4096) {
			if got := Near(a, x); got != 0 {
				t.Fatalf("P9.1: Near(%d, %d) is %d, not 0", a, x, got)
			}
		}
	}
}

func TestNormOfEachNumber(t *testing.T) {
	for x := range prime {
		want := x
		if x > prime/2 {
			want = prime - x
		}
		if got := Norm(x); got != want {
			t.Fatalf("P9.1: Norm(%d) is %d, not %d", x, got, want)
		}
	}
}

func TestNormOfFarNumbers(t *testing.T) {
	for _, x := range far() {
		r := slowOf(great(x))
		if got, want := Norm(x), min(r, prime-r); got != want {
			t.Errorf("P9.1: Norm(%d) is %d, not %d", x, got, want)
		}
	}
	for _, x := range []struct{ x, want int }{{0, 0}, {1, 1}, {-1, 1}, {prime, 0}, {-prime, 0}, {prime - 1, 1}, {prime + 1, 1},
		{4190207, 4190207}, {4190208, 4190208}, {4190209, 4190208}, {4190210, 4190207}, {-4190208, 4190208}, {-4190209, 4190208}} {
		if got := Norm(x.x); got != x.want {
			t.Errorf("P9.1: Norm(%d) is %d, not %d", x.x, got, x.want)
		}
	}
}

func TestSplitOfEachNumber(t *testing.T) {
	wantHigh, wantLow := 0, 0
	for x := range prime {
		if high, low := Split(x); high != wantHigh || low != wantLow {
			t.Fatalf("P9.1: Split(%d) is %d, %d, not %d, %d", x, high, low, wantHigh, wantLow)
		}
		if wantLow++; wantLow == 4097 {
			wantHigh, wantLow = wantHigh+1, -4095
		}
	}
}

func TestSplitAtTheEdges(t *testing.T) {
	for _, x := range [][3]int{{0, 0, 0}, {1, 0, 1}, {4095, 0, 4095}, {4096, 0, 4096}, {4097, 1, -4095}, {8191, 1, -1}, {8192, 1, 0}, {8193, 1, 1},
		{12288, 1, 4096}, {12289, 2, -4095}, {prime - 4097, 1022, 4096}, {prime - 4096, 1023, -4095}, {prime - 2, 1023, -1}, {prime - 1, 1023, 0},
		{prime, 0, 0}, {-1, 1023, 0}, {-4096, 1023, -4095}, {-4097, 1022, 4096}, {prime + 4097, 1, -4095}} {
		if high, low := Split(x[0]); high != x[1] || low != x[2] {
			t.Errorf("P9.1: Split(%d) is %d, %d, not %d, %d", x[0], high, low, x[1], x[2])
		}
	}
}

func TestSplitOfFarNumbers(t *testing.T) {
	for _, x := range far() {
		r := slowOf(great(x))
		wantLow := slowNear(8192, r)
		wantHigh := (r - wantLow) / 8192
		if high, low := Split(x); high != wantHigh || low != wantLow {
			t.Errorf("P9.1: Split(%d) is %d, %d, not %d, %d", x, high, low, wantHigh, wantLow)
		}
	}
}

// Going up by ones, low goes up to g; above it the next step begins, and behind the last one step 0, with one more below it.
func TestPartOfEachNumber(t *testing.T) {
	for _, g := range halves {
		wantHigh, wantLow := 0, 0
		for x := range prime {
			high, low := Part(g, x)
			if high != wantHigh || low != wantLow {
				t.Fatalf("P9.2: Part(%d, %d) is %d, %d, not %d, %d", g, x, high, low, wantHigh, wantLow)
			}
			if sum := high*2*g + low; sum != x && sum != x-prime {
				t.Fatalf("P9.2: Part(%d, %d) is %d, %d: together %d", g, x, high, low, sum)
			}
			if wantLow++; wantLow == g+1 {
				wantHigh, wantLow = wantHigh+1, 1-g
			}
			if wantHigh == (prime-1)/(2*g) {
				wantHigh, wantLow = 0, -g
			}
		}
		if wantHigh != 0 || wantLow != 0 {
			t.Errorf("of g %d the way round q ends at %d, %d", g, wantHigh, wantLow)
		}
	}
}

func TestPartAtTheEdges(t *testing.T) {
	for _, x := range [][4]int{{95232, 0, 0, 0}, {95232, 95231, 0, 95231}, {95232, 95232, 0, 95232}, {95232, 95233, 1, -95231}, {95232, 190463, 1, -1},
		{95232, 190464, 1, 0}, {95232, 190465, 1, 1}, {95232, 285696, 1, 95232}, {95232, 285697, 2, -95231},
		{95232, prime - 95234, 43, 95231}, {95232, prime - 95233, 43, 95232}, {95232, prime - 95232, 0, -95232}, {95232, prime - 95231, 0, -95231},
		{95232, prime - 2, 0, -2}, {95232, prime - 1, 0, -1}, {95232, prime, 0, 0}, {95232, -1, 0, -1}, {95232, -95232, 0, -95232}, {95232, -95233, 43, 95232},
		{261888, 0, 0, 0}, {261888, 261887, 0, 261887}, {261888, 261888, 0, 261888}, {261888, 261889, 1, -261887}, {261888, 523776, 1, 0},
		{261888, 785664, 1, 261888}, {261888, 785665, 2, -261887}, {261888, prime - 261890, 15, 261887}, {261888, prime - 261889, 15, 261888},
		{261888, prime - 261888, 0, -261888}, {261888, prime - 2, 0, -2}, {261888, prime - 1, 0, -1}, {261888, prime, 0, 0}, {261888, -261889, 15, 261888}} {
		if high, low := Part(x[0], x[1]); high != x[2] || low != x[3] {
			t.Errorf("P9.2: Part(%d, %d) is %d, %d, not %d, %d", x[0], x[1], high, low, x[2], x[3])
		}
	}
}

func TestPartOfFarNumbers(t *testing.T) {
	for _, g := range halves {
		for _, x := range far() {
			wantHigh, wantLow := slowPart(g, great(x))
			if high, low := Part(g, x); high != wantHigh || low != wantLow {
				t.Errorf("P9.2: Part(%d, %d) is %d, %d, not %d, %d", g, x, high, low, wantHigh, wantLow)
			}
		}
	}
}

func TestNoSuchHalf(t *testing.T) {
	for _, g := range noHalves() {
		for _, x := range far() {
			if high, low := Part(g, x); high != 0 || low != 0 {
				t.Fatalf("P9.2: Part(%d, %d) is %d, %d, not 0, 0", g, x, high, low)
			}
			for _, z := range []int{0, 1, -1, 95232, 261888, prime / 2, math.MinInt, math.MaxInt} {
				if got := Hint(g, z, x); got != 0 {
					t.Fatalf("P9.2: Hint(%d, %d, %d) is %d, not 0", g, z, x, got)
				}
			}
			for _, h := range []int{0, 1, 2, -1, math.MinInt, math.MaxInt} {
				if got := Use(g, h, x); got != 0 {
					t.Fatalf("P9.2: Use(%d, %d, %d) is %d, not 0", g, h, x, got)
				}
			}
		}
	}
}

func TestHintAtTheEdges(t *testing.T) {
	for _, g := range halves {
		for _, x := range [][3]int{{0, 0, 0}, {0, g, 0}, {0, g + 1, 0}, {0, prime - 1, 0}, {1, g - 1, 0}, {1, g, 1}, {-1, g, 0}, {-1, g + 1, 1}, {1, g + 1, 0},
			{g, 0, 0}, {g, 1, 1}, {g, -g, 0}, {-g, 0, 0}, {-g, -1, 1}, {-g, g, 0}, {-g, g + 1, 1}, {2 * g, 0, 1}, {-2 * g, 2 * g, 1}, {-2 * g, -g, 1},
			{1, -1, 0}, {-1, 0, 0}, {1, prime - 1, 0}, {2, prime - 1, 0}, {-1, prime - g, 1}, {1, prime - g - 1, 1}, {-1, prime - g + 1, 0},
			{prime, g, 0}, {-prime, g, 0}, {3 * prime, -g, 0}, {prime + 1, g, 1}, {1 - prime, g, 1}, {prime - 1, g + 1, 1}, {math.MaxInt / prime * prime, g, 0},
			{math.MaxInt, math.MaxInt, slowHint(g, math.MaxInt, math.MaxInt)}, {math.MinInt, math.MinInt, slowHint(g, math.MinInt, math.MinInt)},
			{math.MinInt, math.MaxInt, slowHint(g, math.MinInt, math.MaxInt)}, {math.MaxInt, math.MinInt, slowHint(g, math.MaxInt, math.MinInt)}} {
			if got := Hint(g, x[0], x[1]); got != x[2] {
				t.Errorf("P9.2: Hint(%d, %d, %d) is %d, not %d", g, x[0], x[1], got, x[2])
			}
		}
	}
}

func TestHintOfFarNumbers(t *testing.T) {
	ends := []int{math.MaxInt, math.MinInt}
	for k := range 400 {
		ends = append(ends, math.MaxInt-k*12345, math.MinInt+k*12345)
	}
	for _, g := range halves {
		for _, z := range append(far(), g, -g, g-1, 1-g, g+1) {
			for _, x := range far() {
				if got, want := Hint(g, z, x), slowHint(g, z, x); got != want {
					t.Fatalf("P9.2: Hint(%d, %d, %d) is %d, not %d", g, z, x, got, want)
				}
			}
		}
		for i, z := range ends {
			for _, x := range ends[i%3:] {
				if got, want := Hint(g, z, x), slowHint(g, z, x); got != want {
					t.Fatalf("P9.2: Hint(%d, %d, %d) is %d, not %d", g, z, x, got, want)
				}
			}
		}
	}
}

func TestUseAtTheEdges(t *testing.T) {
	for _, g := range halves {
		last := (prime-1)/(2*g) - 1
		for _, x := range [][3]int{
			{0, 0, 0}, {0, 1, 0}, {0, -1, 0}, {0, g, 0}, {0, g + 1, 1}, {0, prime - g - 1, last},
			{1, 1, 1}, {1, g, 1}, {1, 0, last}, {1, -1, last}, {1, -g, last}, {1, prime - 1, last}, {1, prime, last}, {1, prime + 1, 1},
			{1, g + 1, 0}, {1, 2*g - 1, 0}, {1, 2 * g, 0}, {1, 2*g + 1, 2}, {1, 3 * g, 2}, {1, 3*g + 1, 1},
			{1, last * 2 * g, last - 1}, {1, last*2*g - 1, last - 1}, {1, last*2*g + 1, 0}, {1, -g - 1, 0}, {1, (last - 1) * 2 * g, last - 2}, {1, (last-1)*2*g + 1, last},
			{2, 1, 0}, {2, 2*g + 1, 1}, {2, -g - 1, last}, {2, 0, 0}, {-1, 1, 0}, {-1, 2*g + 1, 1}, {-1, 0, 0}, {-1, -g - 1, last},
			{3, 2*g + 1, 1}, {1 << 32, 2*g + 1, 1}, {1<<32 + 1, 2*g + 1, 1}, {math.MinInt, 2*g + 1, 1}, {math.MinInt + 1, 2*g + 1, 1}, {math.MaxInt, 2*g + 1, 1}} {
			if got := Use(g, x[0], x[1]); got != x[2] {
				t.Errorf("P9.2: Use(%d, %d, %d) is %d, not %d", g, x[0], x[1], got, x[2])
			}
		}
	}
}

func TestUseAboutEachStep(t *testing.T) {
	for _, g := range halves {
		for k := range 2*(prime-1)/(2*g) + 2 {
			for by := -3; by <= 3; by++ {
				for _, h := range []int{0, 1, 2, -1} {
					x := k*g + by
					if got, want := Use(g, h, x), slowUse(g, h, x); got != want {
						t.Errorf("P9.2: Use(%d, %d, %d) is %d, not %d", g, h, x, got, want)
					}
				}
			}
		}
		for _, x := range far() {
			for _, h := range []int{0, 1, 2, -1, math.MinInt, math.MaxInt} {
				if got, want := Use(g, h, x), slowUse(g, h, x); got != want {
					t.Errorf("P9.2: Use(%d, %d, %d) is %d, not %d", g, h, x, got, want)
				}
			}
		}
	}
}

// With the Hint of z, no further from 0 than g, Use tells of x alone the high part of x + z.
func TestUseOfHint(t *testing.T) {
	for _, g := range halves {
		zs := []int{-g, 1 - g, -g / 2, -2, -1, 0, 1, 2, g / 2, g - 1, g}
		for x := 0; x < prime; x += 37 {
			for _, z := range append(zs, x%(2*g+1)-g) {
				want, _ := Part(g, x+z)
				if got := Use(g, Hint(g, z, x), x); got != want {
					t.Fatalf("P9.2: Use of Hint(%d, %d, %d) is %d, not %d", g, z, x, got, want)
				}
			}
		}
		for k := range 2*(prime-1)/(2*g) + 2 {
			for by := -3; by <= 3; by++ {
				for _, z := range zs {
					x := k*g + by
					want, _ := Part(g, x+z)
					if got := Use(g, Hint(g, z, x), x); got != want {
						t.Fatalf("P9.2: Use of Hint(%d, %d, %d) is %d, not %d", g, z, x, got, want)
					}
				}
			}
		}
	}
}

// answers are those of every call, for a number.
func answers(x int) [12]int {
	splitHigh, splitLow := Split(x)
	g := halves[x&1]
	high, low := Part(g, x)
	return [12]int{Of(x), Mul(x, x), Pow(x, 9), Near(8192, x), Norm(x), splitHigh, splitLow, high, low, Hint(g, 7, x), Use(g, 1, x), Use(g, 0, x)}
}

func TestAskedAgain(t *testing.T) {
	first := [][12]int{}
	for _, x := range far() {
		first = append(first, answers(x))
	}
	for range 3 {
		for i, x := range far() {
			if got := answers(x); got != first[i] {
				t.Errorf("R5: asked again of %d: %v, not %v", x, got, first[i])
			}
		}
	}
	var all sync.WaitGroup
	for range 8 {
		all.Go(func() {
			for i, x := range far() {
				if got := answers(x); got != first[i] {
					t.Errorf("R5: many at once of %d: %v, not %v", x, got, first[i])
				}
			}
		})
	}
	all.Wait()
}

var sink int

func BenchmarkMul(b *testing.B) {
	for i := range b.N {
		sink = Mul(i, sink)
	}
}

func BenchmarkPart(b *testing.B) {
	for i := range b.N {
		high, low := Part(95232, i)
		sink = high + low
	}
}

func BenchmarkUseOfHint(b *testing.B) {
	for i := range b.N {
		sink = Use(261888, Hint(261888, 7, i), i)
	}
}
