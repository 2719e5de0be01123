package lay

import (
	"bytes"
	"crypto/mldsa"
	"errors"
	"math"
	"math/big"
	"math/rand"
	"slices"
	"strconv"
	"testing"

	"chatelaine/api"
)

const (
	prime = 8380417
	count = 256
)

// row is what the chapter says of a set: its numbers, and those that it reckons of them.
type row struct {
	set                        int
	of                         Set
	verify, signing, signature int
	secretBits, maskBits       int // the chapter's s and z
	parts, partBits            int // the chapter's m, and the bits of a number below it
}

func rows() []row {
	return []row{
		{1, Set{4, 4, 2, 39, 78, 80, 131072, 95232, 32}, 1312, 2560, 2420, 3, 18, 44, 6},
		{2, Set{6, 5, 4, 49, 196, 55, 524288, 261888, 48}, 1952, 4032, 3309, 4, 20, 16, 4},
		{3, Set{8, 7, 2, 60, 120, 75, 524288, 261888, 64}, 2592, 4896, 4627, 3, 20, 16, 4},
	}
}

// noSets are none of 1 to 3; some are, if they are cut to 32, 16 or 8 bits, or their sign is.
func noSets() []int {
	return []int{0, 4, 5, 44, 65, 87, -1, -2, -3, -4, 256 + 1, 256 + 3, 1<<16 + 2, 1<<32 + 1, 1<<32 + 2, -1<<32 + 3,
		math.MinInt, math.MinInt + 1, math.MinInt + 2, math.MinInt + 3, math.MaxInt, math.MaxInt - 1}
}

// bound is a and b, and how many bits a + b has.
type bound struct{ a, b, d int }

// bounds are those that the chapter's sets use, the least, the greatest, and those about a power of 2.
func bounds() []bound {
	return []bound{{2, 2, 3}, {4, 4, 4}, {4095, 4096, 13}, {1<<17 - 1, 1 << 17, 18}, {1<<19 - 1, 1 << 19, 20},
		{0, 1, 1}, {1, 0, 1}, {1, 1, 2}, {0, 2, 2}, {2, 0, 2}, {2, 1, 2}, {3, 1, 3}, {1, 3, 3}, {7, 0, 3}, {0, 7, 3}, {0, 8, 4}, {8, 0, 4}, {100, 1, 7},
		{0, 1 << 20, 21}, {1 << 20, 0, 21}, {1 << 20, 1, 21}, {1, 1 << 20, 21}, {1<<20 - 1, 0, 20}, {0, 1<<20 - 1, 20},
		{1<<20 - 1, 1 << 20, 21}, {1 << 20, 1<<20 - 1, 21}, {1 << 20, 1 << 20, 22}}
}

// noBounds are both 0, or one of them is below 0 or above 2^20; the sum of some is one of bounds, wrapped round or not.
func noBounds() [][2]int {
	found := [][2]int{{0, 0}, {math.MinInt, math.MinInt}, {math.MaxInt, math.MaxInt}, {math.MinInt, math.MaxInt}, {math.MaxInt, math.MinInt}, {-1, -1}, {-2, -2}, {1<<20 + 1, 1<<20 + 1}}
	for _, odd := range []int{-1, -2, -4, -4095, -1 << 20, -1<<20 - 1, math.MinInt, math.MinInt + 1, 1<<20 + 1, 1<<20 + 2, 1 << 21, prime - 1, prime, prime + 1, prime + 2, 1 << 32, 1<<32 + 2, math.MaxInt - 1, math.MaxInt} {
		for _, right := range []int{0, 1, 2, 4, 4095, 4096, 1<<20 - 1, 1 << 20} {
			found = append(found, [2]int{odd, right}, [2]int{right, odd})
		}
	}
	return found
}

// places are the first of a poly, the last, and some between.
func places() []int { return []int{0, 1, 2, 7, 8, 100, 127, 128, 253, 254, 255} }

func mod(x int) int { return (x%prime + prime) % prime }

// filled is a poly of one number.
func filled(x int) []int { return slices.Repeat([]int{x}, count) }

// at is a poly of rest, but for one number.
func at(place int, x int, rest int) []int {
	f := filled(rest)
	f[place] = x
	return f
}

// drawnBytes are the same for the same seed.
func drawnBytes(seed int, many int) []byte {
	b := make([]byte, many)
	rand.New(rand.NewSource(int64(seed))).Read(b)
	return b
}

// drawn is a poly of numbers from low to high modulo q, the same for the same seed.
func drawn(seed int, low int, high int) []int {
	from := rand.New(rand.NewSource(int64(seed)))
	f := make([]int, count)
	for i := range f {
		f[i] = mod(low + from.Intn(high-low+1))
	}
	return f
}

// is tells whether an error is, or wraps, a Fault with that Errno; whether there is none, of OK.
func is(e error, want api.Errno) bool {
	if want == api.OK {
		return e == nil
	}
	var f *api.Fault
	return errors.As(e, &f) && f.Code == want && errors.Is(e, want) && api.Code(e) == want
}

// refused tells whether a call answered such an error, and nothing beside it.
func refused[T any](told []T, e error, want api.Errno) bool {
	return len(told) == 0 && e != nil && is(e, want)
}

// slowBytes lays numbers of d bits as one great number, the first number lowest.
func slowBytes(d int, xs []int) []byte {
	great := new(big.Int)
	for _, x := range slices.Backward(xs) {
		great.Lsh(great, uint(d))
		great.Or(great, big.NewInt(int64(x)))
	}
	b := great.FillBytes(make([]byte, (d*len(xs)+7)/8))
	slices.Reverse(b)
	return b
}

// slowNumbers reads a poly of numbers of d bits out of one great number.
func slowNumbers(d int, b []byte) []int {
	turned := slices.Clone(b)
	slices.Reverse(turned)
	great, mask := new(big.Int).SetBytes(turned), big.NewInt(1<<d-1)
	f := make([]int, count)
	for i := range f {
		f[i] = int(new(big.Int).And(great, mask).Int64())
		great.Rsh(great, uint(d))
	}
	return f
}

// slowNear goes by the chapter's words, of a poly and of bounds; false, if a number is another one than from -a to b.
func slowNear(x bound, f []int) ([]byte, bool) {
	var told []int
	for _, n := range f {
		if n > x.b {
			n -= prime
		}
		if n < -x.a {
			return nil, false
		}
		told = append(told, x.b-n)
	}
	return slowBytes(x.d, told), true
}

// slowFar goes by the chapter's words, of as many bytes as are right.
func slowFar(x bound, b []byte) []int {
	f := slowNumbers(x.d, b)
	for i, n := range f {
		f[i] = mod(x.b - n)
	}
	return f
}

func TestExample(t *testing.T) {
	if a, b, c := Sizes(1); a != 1312 || b != 2560 || c != 2420 {
		t.Errorf("P11.1: Sizes(1) is %d, %d, %d", a, b, c)
	}
}

func TestSets(t *testing.T) {
	for _, p := range rows() {
		if got, ok := Of(p.set); !ok || got != p.of {
			t.Errorf("P11.1: Of(%d) is %v, %v", p.set, got, ok)
		}
		k, l := p.of.K, p.of.L
		verify, signing, signature := 32+320*k, 128+32*((k+l)*p.secretBits+13*k), p.of.C+32*l*p.maskBits+p.of.Omega+k
		if verify != p.verify || signing != p.signing || signature != p.signature {
			t.Errorf("P11.1: the sizes of set %d are not as the chapter reckons them", p.set)
		}
		if a, b, c := Sizes(p.set); a != p.verify || b != p.signing || c != p.signature {
			t.Errorf("P11.1: Sizes(%d) is %d, %d, %d", p.set, a, b, c)
		}
	}
	for _, set := range noSets() {
		if got, ok := Of(set); ok || got != (Set{}) {
			t.Errorf("P11.1: Of(%d) is %v, %v", set, got, ok)
		}
		if a, b, c := Sizes(set); a != 0 || b != 0 || c != 0 {
			t.Errorf("P11.1: Sizes(%d) is %d, %d, %d", set, a, b, c)
		}
	}
}

// A set that is written over stays what Of tells.
func TestSetsAreNew(t *testing.T) {
	for _, p := range rows() {
		got, _ := Of(p.set)
		got.K, got.Omega = 1, 2
		if again, _ := Of(p.set); again != p.of {
			t.Errorf("R5: Of(%d) is %v the second time", p.set, again)
		}
	}
}

func TestNearByHand(t *testing.T) {
	for _, x := range []struct {
		a, b  int
		f     []int
		first []byte
		rest  byte
	}{
		{0, 1, filled(0), []byte{255}, 255},
		{0, 1, filled(1), []byte{0}, 0},
		{0, 1, at(0, 0, 1), []byte{1}, 0},
		{0, 1, at(9, 0, 1), []byte{0, 2}, 0},
		{1, 0, at(7, prime-1, 0), []byte{128}, 0},
		{2, 2, at(0, prime-2, 2), []byte{4}, 0},
		{2, 2, at(1, prime-1, 2), []byte{3 << 3}, 0},
		{4, 4, at(1, prime-4, 4), []byte{8 << 4}, 0},
		{4095, 4096, at(0, prime-4095, 4096), []byte{255, 31}, 0},
		{4095, 4096, at(0, 0, 4096), []byte{0, 16}, 0},
		{1<<17 - 1, 1 << 17, at(0, prime-1<<17+1, 1<<17), []byte{255, 255, 3}, 0},
		{1<<19 - 1, 1 << 19, at(0, 0, 1<<19), []byte{0, 0, 8}, 0},
		{1 << 20, 1 << 20, at(0, prime-1<<20, 1<<20), []byte{0, 0, 32}, 0},
	} {
		got := Near(x.a, x.b, x.f)
		want := slices.Concat(x.first, slices.Repeat([]byte{x.rest}, max(0, len(got)-len(x.first))))
		if len(got) == 0 || !bytes.Equal(got, want) {
			t.Errorf("P11.2: Near(%d, %d) begins with %v, not with %v", x.a, x.b, got[:min(len(got), 4)], x.first)
		}
		if back := Far(x.a, x.b, want); !slices.Equal(back, x.f) {
			t.Errorf("P11.2: Far(%d, %d) of %v and %d.. is another poly", x.a, x.b, x.first, x.rest)
		}
	}
}

func TestNearByTheWords(t *testing.T) {
	for _, x := range bounds() {
		fs := [][]int{filled(0), filled(x.b), filled(mod(-x.a))}
		for seed := range 10 {
			fs = append(fs, drawn(seed, -x.a, x.b))
		}
		for i, f := range fs {
			want, ok := slowNear(x, f)
			if got := Near(x.a, x.b, f); !ok || len(got) != 32*x.d || !bytes.Equal(got, want) {
				t.Errorf("P11.2: Near(%d, %d) of the %d-th poly is another one, of %d bytes", x.a, x.b, i, len(got))
			}
			if back := Far(x.a, x.b, want); !slices.Equal(back, f) {
				t.Errorf("P11.2: Far(%d, %d) of the %d-th poly's bytes is another one", x.a, x.b, i)
			}
		}
	}
}

// Numbers at the bounds are laid at each place, those one beyond at none.
func TestNearAtTheBounds(t *testing.T) {
	for _, x := range bounds() {
		for _, place := range places() {
			for _, n := range []int{-x.a, x.b, 0, -1, 1, -x.a + 1, x.b - 1, -x.a - 1, x.b + 1, -x.a - 2, x.b + 2, prime / 2, prime/2 + 1, 1<<x.d - 1, x.b - 1<<x.d + 1} {
				f := drawn(place, -x.a, x.b)
				f[place] = mod(n)
				within := mod(n) <= x.b || mod(n) >= prime-x.a
				want, ok := slowNear(x, f)
				if ok != within {
					t.Fatalf("P11.2: whether %d is from %d to %d is unclear", n, -x.a, x.b)
				}
				if got := Near(x.a, x.b, f); (len(got) == 32*x.d) != ok || !bytes.Equal(got, want) {
					t.Errorf("P11.2: Near(%d, %d) with %d at place %d tells %d bytes", x.a, x.b, n, place, len(got))
				}
			}
		}
	}
}

// noPolys are lists that are no polys, of numbers that are 0 but for what is wrong.
func noPolys() map[string][]int {
	found := map[string][]int{
		"nil":                          nil,
		"an empty list":                {},
		"1 number":                     {0},
		"255 numbers":                  filled(0)[:255],
		"257 numbers":                  append(filled(0), 0),
		"512 numbers":                  append(filled(0), filled(0)...),
		"0 numbers, with room for 256": filled(0)[:0],
		"256 below 0":                  filled(-1),
		"256 of q":                     filled(prime),
	}
	for _, place := range places() {
		for _, x := range []int{-1, -2, -prime, -prime - 1, math.MinInt, math.MinInt + 1, prime, prime + 1, 2*prime - 1, 2 * prime, 1 << 32, 1<<32 + 1, math.MaxInt} {
			found[strconv.Itoa(x)+" at "+strconv.Itoa(place)] = at(place, x, 0)
		}
	}
	return found
}

func TestNearOfWhatIsNoPoly(t *testing.T) {
	for what, f := range noPolys() {
		for _, x := range bounds() {
			if got := Near(x.a, x.b, f); len(got) != 0 {
				t.Errorf("P11.2: Near(%d, %d) of %s tells %d bytes", x.a, x.b, what, len(got))
			}
		}
	}
}

func TestNoBounds(t *testing.T) {
	var bs [][]byte
	for _, n := range []int{0, 1, 31, 32, 64, 96, 128, 224, 256, 416, 576, 640, 672, 704, 736, 32 * 24, 32 * 62, 32 * 63, 32 * 64} {
		bs = append(bs, make([]byte, n), drawnBytes(n, n))
	}
	for _, x := range noBounds() {
		for _, f := range [][]int{filled(0), filled(1), filled(prime - 1), drawn(1, -2, 2), nil, filled(0)[1:]} {
			if got := Near(x[0], x[1], f); len(got) != 0 {
				t.Errorf("P11.2: Near(%d, %d) tells %d bytes", x[0], x[1], len(got))
			}
		}
		for _, b := range append(bs, nil) {
			if got := Far(x[0], x[1], b); len(got) != 0 {
				t.Errorf("P11.2: Far(%d, %d) of %d bytes tells %d numbers", x[0], x[1], len(b), len(got))
			}
		}
	}
}

// Any bytes, as many as are right, are told: those beyond -a, too.
func TestFarByTheWords(t *testing.T) {
	for _, x := range bounds() {
		bs := [][]byte{make([]byte, 32*x.d), slices.Repeat([]byte{255}, 32*x.d)}
		for seed := range 10 {
			bs = append(bs, drawnBytes(seed, 32*x.d))
		}
		for i, b := range bs {
			want := slowFar(x, b)
			if got := Far(x.a, x.b, b); !slices.Equal(got, want) {
				t.Errorf("P11.2: Far(%d, %d) of the %d-th bytes is another poly, of %d numbers", x.a, x.b, i, len(got))
			}
			if again, ok := slowNear(x, want); ok != (slices.Max(slowNumbers(x.d, b)) <= x.a+x.b) || !bytes.Equal(Near(x.a, x.b, want), again) || ok && !bytes.Equal(again, b) {
				t.Errorf("P11.2: Near(%d, %d) of what Far told of the %d-th bytes is another one", x.a, x.b, i)
			}
		}
	}
}

// The numbers that a width still tells beyond -a: the first, the last, at each place; no Near lays them.
func TestFarBeyond(t *testing.T) {
	for _, x := range bounds() {
		top := 1<<x.d - 1
		for _, place := range places() {
			for _, n := range []int{0, x.a + x.b, x.a + x.b + 1, top} {
				if n > top {
					continue
				}
				b := slowBytes(x.d, at(place, n, x.b))
				f := Far(x.a, x.b, b)
				if !slices.Equal(f, at(place, mod(x.b-n), 0)) {
					t.Errorf("P11.2: Far(%d, %d) of %d at place %d is another poly", x.a, x.b, n, place)
				}
				again := Near(x.a, x.b, f)
				if n > x.a+x.b && len(again) != 0 || n <= x.a+x.b && !bytes.Equal(again, b) {
					t.Errorf("P11.2: Near(%d, %d) of what Far told of %d at place %d has %d bytes", x.a, x.b, n, place, len(again))
				}
			}
		}
	}
}

func TestFarOfOtherSizes(t *testing.T) {
	for _, x := range bounds() {
		right := 32 * x.d
		for _, n := range []int{0, 1, 31, 32, 33, right - 32, right - 1, right, right + 1, right + 32, 2 * right, 256 * x.d, 1<<16 + right} {
			for _, b := range [][]byte{make([]byte, n), make([]byte, n+right)[:n]} {
				if got := Far(x.a, x.b, b); (len(got) == count) != (n == right) || len(got) != 0 && n != right {
					t.Errorf("P11.2: Far(%d, %d) of %d bytes tells %d numbers", x.a, x.b, n, len(got))
				}
			}
		}
		if len(Far(x.a, x.b, nil)) != 0 {
			t.Errorf("P11.2: Far(%d, %d) of nil tells numbers", x.a, x.b)
		}
	}
}

// Signatures of the library, ML-DSA-44, 65 and 87 of FIPS 204, are read, and laid again as they were.
func TestByTheLibrary(t *testing.T) {
	for i, params := range []mldsa.Parameters{mldsa.MLDSA44(), mldsa.MLDSA65(), mldsa.MLDSA87()} {
		p := rows()[i]
		if verify, _, signature := Sizes(p.set); verify != params.PublicKeySize() || signature != params.SignatureSize() {
			t.Errorf("P11.1: Sizes(%d) are not FIPS 204's", p.set)
		}
		for seed := range 10 {
			key, e := mldsa.NewPrivateKey(params, drawnBytes(seed, 32))
			if e != nil {
				t.Fatal(e)
			}
			sig, e := key.SignDeterministic([]byte("a message"), nil)
			if e != nil {
				t.Fatal(e)
			}
			masks, hints := sig[p.of.C:p.signature-p.of.Omega-p.of.K], sig[p.signature-p.of.Omega-p.of.K:]
			for z := range slices.Chunk(masks, 32*p.maskBits) {
				f := Far(p.of.G1-1, p.of.G1, z)
				if again := Near(p.of.G1-1, p.of.G1, f); !bytes.Equal(again, z) {
					t.Errorf("P11.2: a poly of signature %d, set %d, is laid otherwise", seed, p.set)
				}
				for _, x := range f {
					if min(x, prime-x) >= p.of.G1-p.of.Beta {
						t.Fatalf("P11.2: %d stands in signature %d of set %d", x, seed, p.set)
					}
				}
			}
			h, e := Unhint(p.set, hints)
			if again, e2 := Hints(p.set, h); e != nil || e2 != nil || !bytes.Equal(again, hints) {
				t.Errorf("P11.3: the hints of signature %d, set %d, are laid otherwise: %v, %v", seed, p.set, e, e2)
			}
		}
	}
}

func BenchmarkNear(b *testing.B) {
	f := drawn(1, -1<<17+1, 1<<17)
	for b.Loop() {
		Near(1<<17-1, 1<<17, f)
	}
}

func BenchmarkFar(b *testing.B) {
	laid := drawnBytes(1, 576)
	for b.Loop() {
		Far(1<<17-1, 1<<17, laid)
	}
}
