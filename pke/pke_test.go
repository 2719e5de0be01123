package pke

import (
	"bytes"
	"crypto/mlkem"
	"crypto/mlkem/mlkemtest"
	"crypto/sha3"
	"errors"
	"math"
	"math/rand"
	"slices"
	"sync"
	"testing"

	"chatelaine/api"
	"chatelaine/draw"
	"chatelaine/poly"
	"chatelaine/ring"
)

// row is what the chapter says of a set.
type row struct{ set, k, e1, e2, du, dv, seal, open, sealed int }

func rows() []row {
	return []row{{1, 2, 3, 2, 10, 4, 800, 768, 768}, {2, 3, 2, 2, 10, 4, 1184, 1152, 1088}, {3, 4, 2, 2, 11, 5, 1568, 1536, 1568}}
}

// noSets are none of 1 to 3; some are, if they are cut to 32, 16 or 8 bits, or their sign is.
func noSets() []int {
	return []int{0, 4, 5, 10, 512, 768, 1024, -1, -2, -3, -4, 256 + 1, 256 + 3, 1<<16 + 2, 1<<32 + 1, 1<<32 + 2, -1<<32 + 3,
		math.MinInt, math.MinInt + 1, math.MinInt + 2, math.MinInt + 3, math.MaxInt, math.MaxInt - 1}
}

// drawnBytes are the same for the same seed.
func drawnBytes(seed int, many int) []byte {
	b := make([]byte, many)
	rand.New(rand.NewSource(int64(seed))).Read(b)
	return b
}

// seeds are of 32 bytes: all 0, all 255, and ordinary ones.
func seeds(many int) [][]byte {
	found := [][]byte{make([]byte, 32), slices.Repeat([]byte{255}, 32)}
	for k := range many {
		found = append(found, drawnBytes(k, 32))
	}
	return found
}

// otherSizes are bytes that are not so many; some are, if their length is cut to 8 or 16 bits, or their spare room is counted.
func otherSizes(size int) [][]byte {
	found := [][]byte{nil, {}, make([]byte, size)[:0], make([]byte, size)[:size-1], make([]byte, 2*size)[:size+1]}
	for _, n := range []int{1, 16, size / 2, size - 32, size - 2, size - 1, size + 1, size + 2, size + 32, 2 * size, 256 + size, 1<<16 + size} {
		if n != size {
			found = append(found, make([]byte, n))
		}
	}
	return found
}

// is tells whether an error is, or wraps, a Fault with that Errno; whether there is none, of OK.
func is(e error, want api.Errno) bool {
	if want == api.OK {
		return e == nil
	}
	var f *api.Fault
	return errors.As(e, &f) && f.Code == want && errors.Is(e, want) && api.Code(e) == want
}

// refused tells whether a call answered such an error, and nothing beside it.
func refused(b []byte, e error, want api.Errno) bool { return len(b) == 0 && is(e, want) }

// slowNumbers are the numbers of d bits that b has, read bit by bit.
func slowNumbers(d int, b []byte) []int {
	xs := make([]int, len(b)*8/d)
	for k := range len(xs) * d {
		if b[k/8]&(1<<(k%8)) != 0 {
			xs[k/d] += 1 << (k % d)
		}
	}
	return xs
}

// slowBytes lay the numbers out with d bits each, bit by bit.
func slowBytes(d int, xs []int) []byte {
	b := make([]byte, (len(xs)*d+7)/8)
	for k := range len(xs) * d {
		if xs[k/d]&(1<<(k%d)) != 0 {
			b[k/8] += 1 << (k % 8)
		}
	}
	return b
}

// put lays the number x of 12 bits at a place of bytes of polys.
func put(b []byte, place int, x int) {
	for k := range 12 {
		at := 12*place + k
		b[at/8] &^= 1 << (at % 8)
		b[at/8] |= byte(x>>k&1) << (at % 8)
	}
}

// evenAt is the chapter's A(i, j).
func evenAt(t *testing.T, rho []byte, i, j int) []int {
	f, e := draw.Even(rho, byte(j), byte(i))
	if e != nil {
		t.Fatal(e)
	}
	return f
}

func from(t *testing.T, eta int, seed []byte, n int) []int {
	f, e := draw.From(eta, seed, byte(n))
	if e != nil {
		t.Fatal(e)
	}
	return f
}

// slowKeys go by the chapter's words, poly by poly.
func slowKeys(t *testing.T, p row, d []byte) ([]byte, []byte) {
	both := sha3.Sum512(append(slices.Clone(d), byte(p.k)))
	rho, sigma := both[:32], both[32:]
	var seal, open []byte
	for i := range p.k {
		s := poly.Over(from(t, p.e1, sigma, i))
		open = append(open, slowBytes(12, s)...)
		sum := poly.Over(from(t, p.e1, sigma, p.k+i))
		for j := range p.k {
			sum = poly.Add(sum, poly.Times(evenAt(t, rho, i, j), poly.Over(from(t, p.e1, sigma, j))))
		}
		seal = append(seal, slowBytes(12, sum)...)
	}
	return append(seal, rho...), open
}

// slowSeal goes by the chapter's words, poly by poly.
func slowSeal(t *testing.T, p row, seal, m, r []byte) []byte {
	numbers, rho := slowNumbers(12, seal[:384*p.k]), seal[384*p.k:]
	v := from(t, p.e2, r, 2*p.k)
	for i, bit := range slowNumbers(1, m) {
		v[i] = (v[i] + 1665*bit) % 3329
	}
	var c []byte
	for i := range p.k {
		sum := make([]int, 256)
		for j := range p.k {
			sum = poly.Add(sum, poly.Times(evenAt(t, rho, j, i), poly.Over(from(t, p.e1, r, j))))
		}
		c = append(c, slowSquashed(p.du, poly.Add(poly.Back(sum), from(t, p.e2, r, p.k+i)))...)
		v = poly.Add(v, poly.Back(poly.Times(numbers[256*i:256*i+256], poly.Over(from(t, p.e1, r, i)))))
	}
	return append(c, slowSquashed(p.dv, v)...)
}

func slowSquashed(d int, f []int) []byte {
	short := make([]int, len(f))
	for i, x := range f {
		short[i] = ring.Squash(d, x)
	}
	return slowBytes(d, short)
}

func slowStretched(d int, b []byte) []int {
	f := slowNumbers(d, b)
	for i, y := range f {
		f[i] = ring.Stretch(d, y)
	}
	return f
}

// slowOpen goes by the chapter's words, poly by poly.
func slowOpen(p row, open, c []byte) []byte {
	w := slowStretched(p.dv, c[32*p.du*p.k:])
	for i := range p.k {
		s := slowNumbers(12, open[384*i:384*i+384])
		u := slowStretched(p.du, c[32*p.du*i:32*p.du*(i+1)])
		w = poly.Sub(w, poly.Back(poly.Times(s, poly.Over(u))))
	}
	for i, x := range w {
		w[i] = ring.Squash(1, x)
	}
	return slowBytes(1, w)
}

// keysFor are a set's keys of a seed.
func keysFor(t *testing.T, set int, d []byte) ([]byte, []byte) {
	seal, open, e := Keys(set, d)
	if e != nil {
		t.Fatalf("P7.2: Keys of set %d: %v", set, e)
	}
	return seal, open
}

// drawnKey is so many bytes of polys, their numbers all below 3329.
func drawnKey(seed int, polys int) []byte {
	source := rand.New(rand.NewSource(int64(seed)))
	numbers := make([]int, 256*polys)
	for i := range numbers {
		numbers[i] = source.Intn(3329)
	}
	return slowBytes(12, numbers)
}

func TestExample(t *testing.T) {
	if a, b, c := Sizes(1); a != 800 || b != 768 || c != 768 {
		t.Errorf("P7.1: Sizes(1) is %d, %d, %d", a, b, c)
	}
}

func TestSets(t *testing.T) {
	for _, p := range rows() {
		if got, ok := Of(p.set); !ok || got != (Set{K: p.k, E1: p.e1, E2: p.e2, DU: p.du, DV: p.dv}) {
			t.Errorf("P7.1: Of(%d) is %v, %v", p.set, got, ok)
		}
		a, b, c := Sizes(p.set)
		if a != p.seal || b != p.open || c != p.sealed {
			t.Errorf("P7.1: Sizes(%d) is %d, %d, %d", p.set, a, b, c)
		}
		if a != 384*p.k+32 || b != 384*p.k || c != 32*(p.du*p.k+p.dv) {
			t.Errorf("P7.1: Sizes(%d) is %d, %d, %d, not what its numbers tell", p.set, a, b, c)
		}
	}
	for _, set := range noSets() {
		if got, ok := Of(set); ok || got != (Set{}) {
			t.Errorf("P7.1: Of(%d) is %v, %v", set, got, ok)
		}
		if a, b, c := Sizes(set); a != 0 || b != 0 || c != 0 {
			t.Errorf("P7.1: Sizes(%d) is %d, %d, %d", set, a, b, c)
		}
	}
}

// Each place of the polys, with any bytes behind them.
func TestMayOfEachNumber(t *testing.T) {
	for _, p := range rows() {
		for k, tail := range [][]byte{make([]byte, 32), slices.Repeat([]byte{255}, 32), drawnBytes(1, 32)} {
			seal := append(drawnKey(k, p.k), tail...)
			if e := May(p.set, seal); e != nil {
				t.Fatalf("P7.1: May(%d) of a key that may be: %v", p.set, e)
			}
			for place := range 256 * p.k {
				for x, want := range map[int]api.Errno{0: api.OK, 3328: api.OK, 3329: api.ErrForm, 3330: api.ErrForm, 4095: api.ErrForm} {
					odd := slices.Clone(seal)
					put(odd, place, x)
					if e := May(p.set, odd); !is(e, want) {
						t.Fatalf("P7.1: May(%d) of a key with %d at place %d: %v", p.set, x, place, e)
					}
				}
			}
		}
	}
}

func TestMayOfNumbersAlike(t *testing.T) {
	for _, p := range rows() {
		for x := range 4096 {
			seal := append(slowBytes(12, slices.Repeat([]int{x}, 256*p.k)), drawnBytes(x, 32)...)
			want := api.OK
			if x >= 3329 {
				want = api.ErrForm
			}
			if e := May(p.set, seal); !is(e, want) {
				t.Fatalf("P7.1: May(%d) of a key of %d everywhere: %v", p.set, x, e)
			}
		}
	}
}

func TestMayOfOtherSizes(t *testing.T) {
	for _, p := range rows() {
		for _, seal := range otherSizes(p.seal) {
			if e := May(p.set, seal); !is(e, api.ErrSize) {
				t.Errorf("P7.1: May(%d) of %d bytes: %v", p.set, len(seal), e)
			}
		}
		right, open := keysFor(t, p.set, drawnBytes(p.set, 32))
		for _, seal := range [][]byte{right[1:], right[:len(right)-1], append(slices.Clone(right), 0), open} {
			if e := May(p.set, seal); !is(e, api.ErrSize) {
				t.Errorf("P7.1: May(%d) of %d bytes: %v", p.set, len(seal), e)
			}
		}
		for _, other := range rows() {
			if e := May(other.set, right); is(e, api.OK) != (other.set == p.set) || other.set != p.set && !is(e, api.ErrSize) {
				t.Errorf("P7.1: May(%d) of a key of set %d: %v", other.set, p.set, e)
			}
		}
	}
}

// Of several that are wrong the set is told first, then the size.
func TestMayTellsTheFirst(t *testing.T) {
	for _, p := range rows() {
		great := slices.Repeat([]byte{255}, p.seal)
		for _, seal := range [][]byte{great[1:], append(slices.Clone(great), 255), great[:p.open]} {
			if e := May(p.set, seal); !is(e, api.ErrSize) {
				t.Errorf("P7.1: May(%d) of %d bytes with numbers that are none: %v", p.set, len(seal), e)
			}
		}
		if e := May(p.set, great); !is(e, api.ErrForm) {
			t.Errorf("P7.1: May(%d) of numbers that are none: %v", p.set, e)
		}
		right, _ := keysFor(t, p.set, drawnBytes(p.set, 32))
		for _, set := range noSets() {
			for _, seal := range [][]byte{right, great, great[1:], {}, nil} {
				if e := May(set, seal); !is(e, api.ErrArg) {
					t.Errorf("P7.1: May(%d) of %d bytes: %v", set, len(seal), e)
				}
			}
		}
	}
}

func TestKeysByTheWords(t *testing.T) {
	for _, p := range rows() {
		for k, d := range seeds(12) {
			seal, open := keysFor(t, p.set, d)
			if len(seal) != p.seal || len(open) != p.open {
				t.Fatalf("P7.2: Keys of set %d have %d and %d bytes", p.set, len(seal), len(open))
			}
			wantSeal, wantOpen := slowKeys(t, p, d)
			if !bytes.Equal(open, wantOpen) {
				t.Errorf("P7.2: the opening key of set %d, seed %d, is another one", p.set, k)
			}
			if !bytes.Equal(seal[p.open:], wantSeal[p.open:]) {
				t.Errorf("P7.2: the sealing key of set %d, seed %d, ends otherwise", p.set, k)
			}
			if !bytes.Equal(seal, wantSeal) {
				t.Errorf("P7.2: the sealing key of set %d, seed %d, is another one", p.set, k)
			}
			if e := May(p.set, seal); e != nil {
				t.Errorf("P7.2: May(%d) of what Keys told of seed %d: %v", p.set, k, e)
			}
		}
	}
}

// The two greater sets are in the library, as ML-KEM-768 and ML-KEM-1024 of FIPS 203.
func TestKeysAndSealByTheLibrary(t *testing.T) {
	for k := range 40 {
		seed, m := drawnBytes(k, 64), drawnBytes(1000+k, 32)
		open768, e := mlkem.NewDecapsulationKey768(seed)
		open1024, e2 := mlkem.NewDecapsulationKey1024(seed)
		if e != nil || e2 != nil {
			t.Fatal(e, e2)
		}
		_, c768, e := mlkemtest.Encapsulate768(open768.EncapsulationKey(), m)
		_, c1024, e2 := mlkemtest.Encapsulate1024(open1024.EncapsulationKey(), m)
		if e != nil || e2 != nil {
			t.Fatal(e, e2)
		}
		for _, x := range []struct {
			set     int
			seal, c []byte
		}{{2, open768.EncapsulationKey().Bytes(), c768}, {3, open1024.EncapsulationKey().Bytes(), c1024}} {
			seal, open := keysFor(t, x.set, seed[:32])
			if !bytes.Equal(seal, x.seal) {
				t.Fatalf("P7.2: Keys of set %d, seed %d, are not FIPS 203's", x.set, k)
			}
			hash := sha3.Sum256(seal)
			both := sha3.Sum512(slices.Concat(m, hash[:]))
			if c, e := Seal(x.set, seal, m, both[32:]); e != nil || !bytes.Equal(c, x.c) {
				t.Fatalf("P7.3: Seal of set %d, message %d, is not FIPS 203's: %v", x.set, k, e)
			}
			if got, e := Open(x.set, open, x.c); e != nil || !bytes.Equal(got, m) {
				t.Fatalf("P7.3: Open of set %d, message %d: %x, %v", x.set, k, got, e)
			}
		}
	}
}

func TestKeysOfOtherSizes(t *testing.T) {
	for _, p := range rows() {
		for _, d := range otherSizes(32) {
			if seal, open, e := Keys(p.set, d); len(open) != 0 || !refused(seal, e, api.ErrSize) {
				t.Errorf("P7.2: Keys(%d) of %d bytes: %d and %d bytes, %v", p.set, len(d), len(seal), len(open), e)
			}
		}
	}
	for _, set := range noSets() {
		for _, d := range append(otherSizes(32), drawnBytes(1, 32)) {
			if seal, open, e := Keys(set, d); len(open) != 0 || !refused(seal, e, api.ErrArg) {
				t.Errorf("P7.2: Keys(%d) of %d bytes: %d and %d bytes, %v", set, len(d), len(seal), len(open), e)
			}
		}
	}
}

// Keys hang on each bit of the seed, and on the set.
func TestKeysOfOtherSeeds(t *testing.T) {
	for _, p := range rows() {
		d := drawnBytes(p.set, 32)
		seal, open := keysFor(t, p.set, d)
		for k := range 256 {
			other := slices.Clone(d)
			other[k/8] ^= 1 << (k % 8)
			seal2, open2 := keysFor(t, p.set, other)
			if bytes.Equal(seal2[:p.open], seal[:p.open]) || bytes.Equal(seal2[p.open:], seal[p.open:]) || bytes.Equal(open2, open) {
				t.Fatalf("P7.2: Keys(%d) don't hang on bit %d of the seed", p.set, k)
			}
		}
	}
}

func TestSealByTheWords(t *testing.T) {
	for _, p := range rows() {
		for k, d := range seeds(3) {
			seal, open := keysFor(t, p.set, d)
			for n, m := range seeds(5) {
				for i, r := range seeds(2) {
					c, e := Seal(p.set, seal, m, r)
					if e != nil || len(c) != p.sealed {
						t.Fatalf("P7.3: Seal(%d) tells %d bytes, %v", p.set, len(c), e)
					}
					if want := slowSeal(t, p, seal, m, r); !bytes.Equal(c, want) {
						t.Errorf("P7.3: Seal(%d) of key %d, message %d, r %d is another one", p.set, k, n, i)
					}
					if got, e := Open(p.set, open, c); e != nil || !bytes.Equal(got, m) {
						t.Errorf("P7.3: Open(%d) of key %d, message %d, r %d is %x, %v", p.set, k, n, i, got, e)
					}
				}
			}
		}
	}
}

// Keys that Keys never told may seal, too: their numbers at the edges, and any bytes behind them.
func TestSealWithOtherKeys(t *testing.T) {
	for _, p := range rows() {
		for n, polys := range [][]byte{make([]byte, p.open), slowBytes(12, slices.Repeat([]int{3328}, 256*p.k)), slowBytes(12, slices.Repeat([]int{1}, 256*p.k)), drawnKey(1, p.k), drawnKey(2, p.k)} {
			for i, rho := range seeds(2) {
				seal, m, r := slices.Concat(polys, rho), drawnBytes(n, 32), drawnBytes(100+i, 32)
				if c, e := Seal(p.set, seal, m, r); e != nil || !bytes.Equal(c, slowSeal(t, p, seal, m, r)) {
					t.Errorf("P7.3: Seal(%d) with polys %d, rho %d is another one: %v", p.set, n, i, e)
				}
			}
		}
	}
}

// Each bit of the message stands at its place, and changes what v tells alone.
func TestSealBitByBit(t *testing.T) {
	for _, p := range rows() {
		seal, open := keysFor(t, p.set, drawnBytes(p.set, 32))
		r := drawnBytes(7, 32)
		none, e := Seal(p.set, seal, make([]byte, 32), r)
		if e != nil {
			t.Fatal(e)
		}
		us := 32 * p.du * p.k
		before := slowNumbers(p.dv, none[us:])
		for k := range 256 {
			m := make([]byte, 32)
			m[k/8] = 1 << (k % 8)
			c, e := Seal(p.set, seal, m, r)
			if e != nil || !bytes.Equal(c[:us], none[:us]) {
				t.Fatalf("P7.3: Seal(%d) of bit %d tells another u: %v", p.set, k, e)
			}
			for i, x := range slowNumbers(p.dv, c[us:]) {
				if (x != before[i]) != (i == k) {
					t.Fatalf("P7.3: Seal(%d) of bit %d: number %d of v is %d, was %d", p.set, k, i, x, before[i])
				}
			}
			if got, e := Open(p.set, open, c); e != nil || !bytes.Equal(got, m) {
				t.Fatalf("P7.3: Open(%d) of bit %d is %x, %v", p.set, k, got, e)
			}
		}
	}
}

func TestSealOfOtherSizes(t *testing.T) {
	for _, p := range rows() {
		seal, open := keysFor(t, p.set, drawnBytes(p.set, 32))
		m, r := drawnBytes(1, 32), drawnBytes(2, 32)
		for _, b := range otherSizes(32) {
			for _, x := range [][2][]byte{{b, r}, {m, b}, {b, b}} {
				if c, e := Seal(p.set, seal, x[0], x[1]); !refused(c, e, api.ErrSize) {
					t.Errorf("P7.3: Seal(%d) of m of %d and r of %d bytes: %d bytes, %v", p.set, len(x[0]), len(x[1]), len(c), e)
				}
			}
		}
		for _, b := range append(otherSizes(p.seal), seal[1:], seal[:p.seal-1], append(slices.Clone(seal), 0), open) {
			if c, e := Seal(p.set, b, m, r); !refused(c, e, api.ErrSize) {
				t.Errorf("P7.3: Seal(%d) with a key of %d bytes: %d bytes, %v", p.set, len(b), len(c), e)
			}
		}
	}
}

func TestSealWithNumbersAtTheEdge(t *testing.T) {
	for _, p := range rows() {
		seal, _ := keysFor(t, p.set, drawnBytes(p.set, 32))
		m, r := drawnBytes(1, 32), drawnBytes(2, 32)
		for _, place := range []int{0, 1, 127, 128, 255, 256, 256*p.k - 2, 256*p.k - 1} {
			odd := slices.Clone(seal)
			put(odd, place, 3328)
			if c, e := Seal(p.set, odd, m, r); e != nil || !bytes.Equal(c, slowSeal(t, p, odd, m, r)) {
				t.Errorf("P7.3: Seal(%d) with 3328 at place %d: %v", p.set, place, e)
			}
			for _, x := range []int{3329, 4095} {
				put(odd, place, x)
				if c, e := Seal(p.set, odd, m, r); !refused(c, e, api.ErrForm) {
					t.Errorf("P7.3: Seal(%d) with %d at place %d: %d bytes, %v", p.set, x, place, len(c), e)
				}
			}
		}
	}
}

// Of several that are wrong what May tells comes first: the set, the key's size, its numbers; then m and r.
func TestSealTellsTheFirst(t *testing.T) {
	for _, p := range rows() {
		seal, _ := keysFor(t, p.set, drawnBytes(p.set, 32))
		great, m, r := slices.Repeat([]byte{255}, p.seal), drawnBytes(1, 32), drawnBytes(2, 32)
		for _, x := range [][2][]byte{{m, r}, {m[1:], r}, {m, r[1:]}, {nil, nil}} {
			if c, e := Seal(p.set, great, x[0], x[1]); !refused(c, e, api.ErrForm) {
				t.Errorf("P7.3: Seal(%d) with numbers that are none, m of %d, r of %d bytes: %v", p.set, len(x[0]), len(x[1]), e)
			}
			if c, e := Seal(p.set, great[1:], x[0], x[1]); !refused(c, e, api.ErrSize) {
				t.Errorf("P7.3: Seal(%d) with a byte less, m of %d, r of %d bytes: %v", p.set, len(x[0]), len(x[1]), e)
			}
			for _, set := range noSets() {
				for _, key := range [][]byte{seal, great, great[1:], nil} {
					if c, e := Seal(set, key, x[0], x[1]); !refused(c, e, api.ErrArg) {
						t.Errorf("P7.3: Seal(%d) with a key of %d, m of %d, r of %d bytes: %v", set, len(key), len(x[0]), len(x[1]), e)
					}
				}
			}
		}
	}
}

// Any bytes of the right sizes are opened, whatever message they tell.
func TestOpenByTheWords(t *testing.T) {
	for _, p := range rows() {
		_, open := keysFor(t, p.set, drawnBytes(p.set, 32))
		for n, key := range [][]byte{open, drawnKey(1, p.k), drawnKey(2, p.k), make([]byte, p.open), slowBytes(12, slices.Repeat([]int{3328}, 256*p.k))} {
			sealed := [][]byte{make([]byte, p.sealed), slices.Repeat([]byte{255}, p.sealed), slices.Repeat([]byte{0b0101_0101}, p.sealed)}
			for k := range 10 {
				sealed = append(sealed, drawnBytes(k, p.sealed))
			}
			for k, c := range sealed {
				m, e := Open(p.set, key, c)
				if want := slowOpen(p, key, c); e != nil || len(m) != 32 || !bytes.Equal(m, want) {
					t.Errorf("P7.3: Open(%d) with key %d of bytes %d is %x, %v, not %x", p.set, n, k, m, e, want)
				}
			}
		}
	}
}

// What was sealed, with one byte changed, and with another key: by the chapter's words, whatever comes.
func TestOpenOfWhatWasChanged(t *testing.T) {
	for _, p := range rows() {
		seal, open := keysFor(t, p.set, drawnBytes(p.set, 32))
		_, other := keysFor(t, p.set, drawnBytes(50, 32))
		m := drawnBytes(1, 32)
		c, e := Seal(p.set, seal, m, drawnBytes(2, 32))
		if e != nil {
			t.Fatal(e)
		}
		for at := 0; at < len(c); at += 31 {
			odd := slices.Clone(c)
			odd[at] ^= 255
			if got, e := Open(p.set, open, odd); e != nil || !bytes.Equal(got, slowOpen(p, open, odd)) {
				t.Errorf("P7.3: Open(%d) with byte %d changed is %x, %v", p.set, at, got, e)
			}
		}
		if got, e := Open(p.set, other, c); e != nil || bytes.Equal(got, m) || !bytes.Equal(got, slowOpen(p, other, c)) {
			t.Errorf("P7.3: Open(%d) with another key is %x, %v", p.set, got, e)
		}
	}
}

// A first poly of the key that is 1, the others 0, leaves v less the first u: so each number is made by hand, and a bit is 1 from 833 to 2496.
func TestOpenByHand(t *testing.T) {
	for _, p := range rows() {
		one := make([]int, 256*p.k)
		for i := 0; i < 256; i += 2 {
			one[i] = 1
		}
		open, seen := slowBytes(12, one), map[int]int{}
		for y := range 1 << p.dv {
			for first := 0; first < 1<<p.du; first += 256 {
				u, want := make([]int, 256*p.k), make([]int, 256)
				for i := range 256 {
					u[i] = first + i
					w := (ring.Stretch(p.dv, y) - ring.Stretch(p.du, first+i) + 3329) % 3329
					if w >= 833 && w <= 2496 {
						want[i] = 1
					}
					seen[w]++
				}
				c := append(slowBytes(p.du, u), slowBytes(p.dv, slices.Repeat([]int{y}, 256))...)
				if m, e := Open(p.set, open, c); e != nil || !bytes.Equal(m, slowBytes(1, want)) {
					t.Fatalf("P7.3: Open(%d) of v %d, u from %d on, is %x, %v", p.set, y, first, m, e)
				}
			}
		}
		for _, w := range []int{0, 832, 833, 2496, 2497} {
			if seen[w] == 0 {
				t.Errorf("P7.3: what was tried never leaves %d in set %d", w, p.set)
			}
		}
	}
}

func TestOpenOfOtherSizes(t *testing.T) {
	for _, p := range rows() {
		seal, open := keysFor(t, p.set, drawnBytes(p.set, 32))
		c, e := Seal(p.set, seal, drawnBytes(1, 32), drawnBytes(2, 32))
		if e != nil {
			t.Fatal(e)
		}
		for _, key := range append(otherSizes(p.open), open[1:], open[:p.open-1], append(slices.Clone(open), 0), seal) {
			if m, e := Open(p.set, key, c); !refused(m, e, api.ErrSize) {
				t.Errorf("P7.3: Open(%d) with a key of %d bytes: %x, %v", p.set, len(key), m, e)
			}
		}
		for _, b := range append(otherSizes(p.sealed), c[1:], c[:p.sealed-1], append(slices.Clone(c), 0)) {
			if m, e := Open(p.set, open, b); !refused(m, e, api.ErrSize) {
				t.Errorf("P7.3: Open(%d) of %d bytes: %x, %v", p.set, len(b), m, e)
			}
		}
		for _, other := range rows() {
			if m, e := Open(other.set, open, c); other.set != p.set && !refused(m, e, api.ErrSize) {
				t.Errorf("P7.3: Open(%d) with what is of set %d: %x, %v", other.set, p.set, m, e)
			}
		}
	}
}

func TestOpenWithNumbersAtTheEdge(t *testing.T) {
	for _, p := range rows() {
		_, open := keysFor(t, p.set, drawnBytes(p.set, 32))
		c := drawnBytes(p.set, p.sealed)
		for place := range 256 * p.k {
			odd := slices.Clone(open)
			for _, x := range []int{3329, 4095} {
				put(odd, place, x)
				if m, e := Open(p.set, odd, c); !refused(m, e, api.ErrForm) {
					t.Fatalf("P7.3: Open(%d) with %d at place %d: %x, %v", p.set, x, place, m, e)
				}
			}
			if place%64 != 0 && place%256 != 255 {
				continue
			}
			put(odd, place, 3328)
			if m, e := Open(p.set, odd, c); e != nil || !bytes.Equal(m, slowOpen(p, odd, c)) {
				t.Fatalf("P7.3: Open(%d) with 3328 at place %d: %x, %v", p.set, place, m, e)
			}
		}
	}
}

// Of several that are wrong the set is told first, then the sizes, then the key's numbers.
func TestOpenTellsTheFirst(t *testing.T) {
	for _, p := range rows() {
		_, open := keysFor(t, p.set, drawnBytes(p.set, 32))
		great, c := slices.Repeat([]byte{255}, p.open), drawnBytes(p.set, p.sealed)
		for _, x := range [][2][]byte{{great[1:], c}, {great, c[1:]}, {great, append(slices.Clone(c), 0)}, {great, nil}, {great[1:], c[1:]}, {nil, nil}} {
			if m, e := Open(p.set, x[0], x[1]); !refused(m, e, api.ErrSize) {
				t.Errorf("P7.3: Open(%d) with a key of %d, of %d bytes: %x, %v", p.set, len(x[0]), len(x[1]), m, e)
			}
		}
		if m, e := Open(p.set, great, c); !refused(m, e, api.ErrForm) {
			t.Errorf("P7.3: Open(%d) with numbers that are none: %x, %v", p.set, m, e)
		}
		for _, set := range noSets() {
			for _, x := range [][2][]byte{{open, c}, {great, c}, {open[1:], c}, {open, c[1:]}, {great, nil}, {nil, nil}, {{}, {}}} {
				if m, e := Open(set, x[0], x[1]); !refused(m, e, api.ErrArg) {
					t.Errorf("P7.3: Open(%d) with a key of %d, of %d bytes: %x, %v", set, len(x[0]), len(x[1]), m, e)
				}
			}
		}
	}
}

// failure is a call that is refused.
type failure struct {
	name string
	want api.Errno
	ask  func() error
}

func failures() []failure {
	great, b := slices.Repeat([]byte{255}, 800), make([]byte, 32)
	may := func(set int, seal []byte) func() error { return func() error { return May(set, seal) } }
	keys := func(set int, d []byte) func() error { return func() error { _, _, e := Keys(set, d); return e } }
	seal := func(set int, key, m, r []byte) func() error {
		return func() error { _, e := Seal(set, key, m, r); return e }
	}
	open := func(set int, key, c []byte) func() error { return func() error { _, e := Open(set, key, c); return e } }
	return []failure{
		{"May of no set", api.ErrArg, may(0, nil)}, {"May of a size", api.ErrSize, may(1, nil)}, {"May of numbers", api.ErrForm, may(1, great)},
		{"Keys of no set", api.ErrArg, keys(4, nil)}, {"Keys of a size", api.ErrSize, keys(1, nil)},
		{"Seal of no set", api.ErrArg, seal(-1, nil, nil, nil)}, {"Seal of a key's size", api.ErrSize, seal(1, nil, b, b)}, {"Seal of numbers", api.ErrForm, seal(1, great, b, b)},
		{"Seal of m's size", api.ErrSize, seal(1, make([]byte, 800), nil, b)}, {"Seal of r's size", api.ErrSize, seal(1, make([]byte, 800), b, nil)},
		{"Open of no set", api.ErrArg, open(9, nil, nil)}, {"Open of a key's size", api.ErrSize, open(1, nil, make([]byte, 768))},
		{"Open of a size", api.ErrSize, open(1, make([]byte, 768), nil)}, {"Open of numbers", api.ErrForm, open(1, great[:768], make([]byte, 768))},
	}
}

// Each error wraps its Fault, and tells it in words of its own.
func TestErrorsAreWrapped(t *testing.T) {
	for _, x := range failures() {
		e := x.ask()
		var fault *api.Fault
		if !errors.As(e, &fault) || fault.Code != x.want || !errors.Is(e, x.want) || api.Code(e) != x.want {
			t.Errorf("P7.1 to P7.3: %s: %v is no Fault of %v", x.name, e, x.want)
			continue
		}
		if inner := errors.Unwrap(e); inner == nil || !errors.Is(inner, fault) {
			t.Errorf("P7.1 to P7.3: %s: %v does not wrap its Fault", x.name, e)
		}
		if e.Error() == "" || e.Error() == fault.Error() {
			t.Errorf("P7.1 to P7.3: %s: %v tells no more than its Fault", x.name, e)
		}
		for other := api.OK; other <= api.ErrWait; other++ {
			if other != x.want && errors.Is(e, other) {
				t.Errorf("P7.1 to P7.3: %s: %v is told to be %v too", x.name, e, other)
			}
		}
	}
}

// A Fault that is written over stays what other answers have.
func TestErrorsAreNew(t *testing.T) {
	for _, x := range failures() {
		var fault *api.Fault
		first, kept := x.ask(), x.ask()
		if errors.As(first, &fault) {
			fault.Code = api.ErrWait
		}
		if !is(kept, x.want) || !is(x.ask(), x.want) {
			t.Errorf("R4: errors of %s share memory", x.name)
		}
	}
}

// call is one that takes bytes in, with the sizes that it takes.
type call struct {
	name  string
	sizes []int
	ask   func(args [][]byte) ([][]byte, error)
}

func calls() []call {
	var found []call
	for _, p := range rows() {
		found = append(found,
			call{"May", []int{p.seal}, func(a [][]byte) ([][]byte, error) { return nil, May(p.set, a[0]) }},
			call{"Keys", []int{32}, func(a [][]byte) ([][]byte, error) {
				seal, open, e := Keys(p.set, a[0])
				return [][]byte{seal, open}, e
			}},
			call{"Seal", []int{p.seal, 32, 32}, func(a [][]byte) ([][]byte, error) {
				c, e := Seal(p.set, a[0], a[1], a[2])
				return [][]byte{c}, e
			}},
			call{"Open", []int{p.open, p.sealed}, func(a [][]byte) ([][]byte, error) {
				m, e := Open(p.set, a[0], a[1])
				return [][]byte{m}, e
			}})
	}
	return found
}

// argsFor are bytes of these sizes and more, with spare room behind them; bytes of a key are small numbers, or, of great, none.
func argsFor(sizes []int, more int, great bool) (rooms, args [][]byte) {
	for k, n := range sizes {
		room := slices.Concat(drawnBytes(k, n), slices.Repeat([]byte{77}, 100))
		if n > 32 && k == 0 {
			copy(room, drawnKey(k, n/384))
		}
		if great {
			room[0], room[1] = 255, 255
		}
		rooms, args = append(rooms, room), append(args, room[:n+more])
	}
	return rooms, args
}

func cloneAll(bs [][]byte) [][]byte {
	var found [][]byte
	for _, b := range bs {
		found = append(found, slices.Clone(b))
	}
	return found
}

// sameAll tells whether each is the same bytes, none and empty alike.
func sameAll(as, bs [][]byte) bool { return slices.EqualFunc(as, bs, bytes.Equal) }

func TestWhatIsHandedInStays(t *testing.T) {
	for _, c := range calls() {
		for _, more := range []int{-1, 0, 1} {
			for _, great := range []bool{false, true} {
				rooms, args := argsFor(c.sizes, more, great)
				had := cloneAll(rooms)
				told, e := c.ask(args)
				if more == 0 && !great && e != nil {
					t.Errorf("P7.1 to P7.3: %s of right bytes: %v", c.name, e)
				}
				for _, b := range told {
					clear(b[:cap(b)])
				}
				if !sameAll(rooms, had) {
					t.Errorf("R4: %s of %v and %d bytes changes them, their spare room, or shares memory with them", c.name, c.sizes, more)
				}
			}
		}
	}
}

func TestAnswersShareNothing(t *testing.T) {
	for _, c := range calls() {
		_, args := argsFor(c.sizes, 0, false)
		told, _ := c.ask(args)
		again, _ := c.ask(args)
		want := cloneAll(told)
		if !sameAll(again, want) {
			t.Errorf("R5: %s tells another answer the second time", c.name)
		}
		for _, b := range append(again, args...) {
			clear(b[:cap(b)])
		}
		if !sameAll(told, want) {
			t.Errorf("R4: what %s told is changed later", c.name)
		}
		for k, b := range told {
			clear(b[:cap(b)])
			if !sameAll(told[k+1:], want[k+1:]) {
				t.Errorf("R4: the answers of one %s share memory", c.name)
			}
		}
	}
}

// A call that was refused leaves the next one as it was.
func TestAskedAgainBehindErrors(t *testing.T) {
	for _, c := range calls() {
		_, args := argsFor(c.sizes, 0, false)
		want, e := c.ask(args)
		for _, more := range []int{-1, 1, 0} {
			_, wrong := argsFor(c.sizes, more, true)
			_, first := c.ask(wrong)
			_, second := c.ask(wrong)
			if api.Code(first) != api.Code(second) {
				t.Errorf("R5: %s refuses otherwise the second time: %v, %v", c.name, first, second)
			}
			if told, e2 := c.ask(args); !sameAll(told, want) || api.Code(e) != api.Code(e2) {
				t.Errorf("R5: %s tells another answer behind an error", c.name)
			}
		}
	}
}

// What stands in spare room is none of the bytes.
func TestSpareRoomIsNotCounted(t *testing.T) {
	for _, c := range calls() {
		_, args := argsFor(c.sizes, 0, false)
		var tight [][]byte
		for _, b := range args {
			tight = append(tight, slices.Clip(slices.Clone(b)))
		}
		told, e := c.ask(args)
		want, e2 := c.ask(tight)
		if e != nil || e2 != nil || !sameAll(told, want) {
			t.Errorf("P7.1 to P7.3: %s of bytes with spare room is another one: %v, %v", c.name, e, e2)
		}
	}
}

func TestManyAtOnce(t *testing.T) {
	for _, p := range rows() {
		d, m, r := drawnBytes(1, 32), drawnBytes(2, 32), drawnBytes(3, 32)
		seal, open := slowKeys(t, p, d)
		c := slowSeal(t, p, seal, m, r)
		var all sync.WaitGroup
		for range 8 {
			all.Go(func() {
				for range 10 {
					seal2, open2, e := Keys(p.set, d)
					c2, e2 := Seal(p.set, seal, m, r)
					m2, e3 := Open(p.set, open, c)
					if e != nil || e2 != nil || e3 != nil || !sameAll([][]byte{seal2, open2, c2, m2}, [][]byte{seal, open, c, m}) {
						t.Error("R5: a call told another answer beside other calls")
					}
				}
			})
		}
		all.Wait()
	}
}

func BenchmarkKeys(b *testing.B) {
	d := drawnBytes(1, 32)
	for b.Loop() {
		Keys(3, d)
	}
}

func BenchmarkSeal(b *testing.B) {
	seal, _, _ := Keys(3, drawnBytes(1, 32))
	m, r := drawnBytes(2, 32), drawnBytes(3, 32)
	for b.Loop() {
		Seal(3, seal, m, r)
	}
}

func BenchmarkOpen(b *testing.B) {
	_, open, _ := Keys(3, drawnBytes(1, 32))
	c := drawnBytes(2, 1568)
	for b.Loop() {
		Open(3, open, c)
	}
}
