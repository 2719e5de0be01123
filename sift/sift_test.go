package sift

import (
	"bytes"
	"crypto/sha3"
	"errors"
	"math"
	"math/rand"
	"slices"
	"testing"

	"chatelaine/api"
	"chatelaine/lay"
)

const (
	prime = 8380417
	count = 256
	most  = 4096 // the chapter's MaxSqueeze
)

// row is what the chapters say of a set, as far as a poly out of a seed hangs on it.
type row struct{ set, tau, half, width, challenge int }

func rows() []row {
	return []row{{1, 39, 131072, 18, 32}, {2, 49, 524288, 20, 48}, {3, 60, 524288, 20, 64}}
}

// noSets are none of 1 to 3; some are, if they are cut to 32, 16 or 8 bits, or their sign is.
func noSets() []int {
	return []int{0, 4, 5, 7, 44, 65, 87, -1, -2, -3, -4, 256 + 1, 256 + 3, 1<<16 + 2, 1<<32 + 1, 1<<32 + 2, -1<<32 + 3,
		math.MinInt, math.MinInt + 1, math.MinInt + 2, math.MinInt + 3, math.MaxInt, math.MaxInt - 1}
}

// noEtas are neither 2 nor 4; some are, if they are cut to 32, 16 or 8 bits, or their sign is.
func noEtas() []int {
	return []int{0, 1, 3, 5, 6, 8, 64, -1, -2, -3, -4, -5, 256 + 2, 256 + 4, 1<<16 + 2, 1<<32 + 2, 1<<32 + 4, -1<<32 + 4,
		math.MinInt, math.MinInt + 2, math.MinInt + 4, math.MaxInt, math.MaxInt - 1}
}

// indexes are the first that n may be, the last, and those about a byte's end.
func indexes() []int {
	return []int{0, 1, 2, 7, 127, 128, 254, 255, 256, 257, 511, 512, 32767, 32768, 65279, 65280, 65534, 65535}
}

// noIndexes are not from 0 to 65535; some are, if they are cut to 32 or 16 bits, or their sign is.
func noIndexes() []int {
	return []int{-1, -2, -255, -256, -65535, -65536, -65537, 65536, 65537, 65536 + 255, 1 << 17, 1 << 20, 1 << 32, 1<<32 + 1, 1<<32 + 65535, -1<<32 + 1,
		math.MinInt, math.MinInt + 1, math.MaxInt - 1, math.MaxInt}
}

// drawnBytes are the same for the same seed.
func drawnBytes(seed int, many int) []byte {
	b := make([]byte, many)
	rand.New(rand.NewSource(int64(seed))).Read(b)
	return b
}

// seeds are of so many bytes: all 0, all 255, and ordinary ones.
func seeds(size int, many int) [][]byte {
	found := [][]byte{make([]byte, size), slices.Repeat([]byte{255}, size)}
	for k := range many {
		found = append(found, drawnBytes(k, size))
	}
	return found
}

// noSeeds have not so many bytes; some have, if their length is cut to 8 or 16 bits, or their spare room is counted.
func noSeeds(size int) [][]byte {
	found := [][]byte{nil, {}, drawnBytes(1, size)[:0], drawnBytes(1, size)[:size-1], drawnBytes(1, 2*size)[:size+1]}
	for _, n := range []int{1, 2, 31, 32, 33, 34, 47, 48, 49, 63, 64, 65, 66, 96, 128, 256 + size, 1<<16 + size} {
		if n != size {
			found = append(found, drawnBytes(n, n))
		}
	}
	return found
}

// is tells whether an error is, or wraps, a Fault with that Errno; whether there is none, of OK.
func is(e error, want api.Errno) bool {
	if want == api.OK {
		return e == nil
	}
	var f *api.Fault
	return errors.As(e, &f) && f.Code == want && errors.Is(e, want) && api.Code(e) == want
}

// refused tells whether a call answered such an error, and nothing beside it.
func refused(f []int, e error, want api.Errno) bool { return len(f) == 0 && e != nil && is(e, want) }

func mod(x int) int { return (x%prime + prime) % prime }

// indexed is a seed with n behind it, the lowest byte first.
func indexed(seed []byte, n int) []byte {
	return slices.Concat(seed, []byte{byte(n % 256), byte(n / 256)})
}

// filledUp is a poly of the first 256 numbers, of zeros where there are fewer.
func filledUp(xs []int) []int { return append(xs, make([]int, count)...)[:count] }

// slowEven goes by the chapter's words, with all bytes laid out first.
func slowEven(b []byte) []int {
	var found []int
	for k := range 1365 {
		x := int(b[3*k]) + 256*int(b[3*k+1]) + 65536*(int(b[3*k+2])%128)
		if x < prime {
			found = append(found, x)
		}
	}
	return filledUp(found)
}

// slowSmall goes by the chapter's words, with all bytes laid out first.
func slowSmall(eta int, b []byte) []int {
	var found []int
	for k := range most {
		for _, x := range []int{int(b[k]) % 16, int(b[k]) / 16} {
			if eta == 2 && x < 15 {
				found = append(found, mod(2-x%5))
			}
			if eta == 4 && x < 9 {
				found = append(found, mod(4-x))
			}
		}
	}
	return filledUp(found)
}

// slowBall goes by the chapter's words, with all bytes laid out first.
func slowBall(tau int, b []byte) []int {
	f, at := make([]int, count), 8
	for i := count - tau; i <= 255; i++ {
		for at < most && int(b[at]) > i {
			at++
		}
		if at == most {
			return f
		}
		j := int(b[at])
		at++
		was := f[j]
		f[i] = was
		f[j] = mod(1 - 2*slowBit(b[:8], i+tau-256))
	}
	return f
}

// slowBit is bit k of b, the lowest of the first byte being the first.
func slowBit(b []byte, k int) int {
	x := int(b[k/8])
	for range k % 8 {
		x /= 2
	}
	return x % 2
}

func TestExample(t *testing.T) {
	for k, seed := range seeds(32, 20) {
		f, e := Ball(1, seed)
		ones := 0
		for _, x := range f {
			if x == 1 || x == prime-1 {
				ones++
			}
		}
		if e != nil || ones != 39 {
			t.Errorf("P12.2: Ball(1) of seed %d has %d ones, %v", k, ones, e)
		}
	}
}

func TestEvenByTheWords(t *testing.T) {
	places := []byte{0, 1, 2, 3, 127, 128, 254, 255}
	for k, seed := range seeds(32, 6) {
		for _, s := range places {
			for _, r := range places {
				f, e := Even(seed, s, r)
				want := slowEven(sha3.SumSHAKE128(slices.Concat(seed, []byte{s, r}), most))
				if e != nil || !slices.Equal(f, want) {
					t.Fatalf("P12.1: Even of seed %d, %d, %d is %v, %v, not %v", k, s, r, f, e, want)
				}
			}
		}
	}
}

// The first bytes of many seeds hold numbers that are passed over, and ones whose highest bit is left out.
func TestEvenOfManySeeds(t *testing.T) {
	over, cut := 0, 0
	for n := range 1000 {
		seed, s, r := drawnBytes(n, 32), byte(n), byte(n/256)
		b := sha3.SumSHAKE128(slices.Concat(seed, []byte{s, r}), most)
		f, e := Even(seed, s, r)
		if want := slowEven(b); e != nil || !slices.Equal(f, want) {
			t.Fatalf("P12.1: Even of seed %d is %v, %v, not %v", n, f, e, want)
		}
		if slices.Max(f) >= prime || slices.Min(f) < 0 {
			t.Fatalf("P12.1: Even of seed %d tells numbers that are none", n)
		}
		for k := range 250 {
			if b[3*k+2] >= 128 {
				cut++
			}
			if b[3*k+2]%128 == 127 && b[3*k+1] > 224 {
				over++
			}
		}
	}
	if over < 50 || cut < 50 {
		t.Errorf("P12.1: the seeds tried pass over %d numbers, cut %d", over, cut)
	}
}

// Each of s and r changes the answer, and so does which of them stands first.
func TestEvenOfOtherPlaces(t *testing.T) {
	for k, seed := range seeds(32, 4) {
		var seen [][]int
		for _, s := range []byte{0, 1, 255} {
			for _, r := range []byte{0, 1, 255} {
				f, e := Even(seed, s, r)
				if e != nil || len(f) != count {
					t.Fatalf("P12.1: Even of seed %d, %d, %d: %d numbers, %v", k, s, r, len(f), e)
				}
				for _, other := range seen {
					if slices.Equal(f, other) {
						t.Errorf("P12.1: Even of seed %d, %d, %d is what it is of another place", k, s, r)
					}
				}
				seen = append(seen, f)
			}
		}
	}
}

func TestEvenOfOtherSizes(t *testing.T) {
	for _, seed := range noSeeds(32) {
		for _, at := range []byte{0, 1, 255} {
			if f, e := Even(seed, at, 255-at); !refused(f, e, api.ErrSize) {
				t.Errorf("P12.1: Even of %d bytes: %d numbers, %v", len(seed), len(f), e)
			}
		}
	}
}

func TestSmallByTheWords(t *testing.T) {
	for k, seed := range seeds(64, 6) {
		for _, n := range indexes() {
			b := sha3.SumSHAKE256(indexed(seed, n), most)
			for _, eta := range []int{2, 4} {
				f, e := Small(eta, seed, n)
				if want := slowSmall(eta, b); e != nil || !slices.Equal(f, want) {
					t.Fatalf("P12.1: Small(%d) of seed %d, %d is %v, %v, not %v", eta, k, n, f, e, want)
				}
			}
		}
	}
}

// Some polys of eta 4 need no more than two rates of bytes, others more than that.
func TestSmallOfManySeeds(t *testing.T) {
	for n := range 500 {
		seed := drawnBytes(n, 64)
		b := sha3.SumSHAKE256(indexed(seed, 65535-n), most)
		for _, eta := range []int{2, 4} {
			f, e := Small(eta, seed, 65535-n)
			if want := slowSmall(eta, b); e != nil || !slices.Equal(f, want) {
				t.Fatalf("P12.1: Small(%d) of seed %d is %v, %v, not %v", eta, n, f, e, want)
			}
			for x := -eta; x <= eta; x++ {
				if !slices.Contains(f, mod(x)) {
					t.Errorf("P12.1: Small(%d) of seed %d never tells %d", eta, n, x)
				}
			}
		}
	}
}

func TestSmallOfOtherArguments(t *testing.T) {
	every := append(noSeeds(64), drawnBytes(1, 64))
	for _, seed := range every {
		for _, eta := range noEtas() {
			for _, n := range []int{0, 1, 65535, -1, 65536, math.MinInt, math.MaxInt} {
				if f, e := Small(eta, seed, n); !refused(f, e, api.ErrArg) {
					t.Errorf("P12.1: Small(%d) of %d bytes, %d: %d numbers, %v", eta, len(seed), n, len(f), e)
				}
			}
		}
		for _, n := range noIndexes() {
			for _, eta := range []int{2, 4} {
				if f, e := Small(eta, seed, n); !refused(f, e, api.ErrArg) {
					t.Errorf("P12.1: Small(%d) of %d bytes, %d: %d numbers, %v", eta, len(seed), n, len(f), e)
				}
			}
		}
	}
}

func TestSmallOfOtherSizes(t *testing.T) {
	for _, seed := range noSeeds(64) {
		for _, eta := range []int{2, 4} {
			for _, n := range []int{0, 1, 255, 256, 65535} {
				if f, e := Small(eta, seed, n); !refused(f, e, api.ErrSize) {
					t.Errorf("P12.1: Small(%d) of %d bytes, %d: %d numbers, %v", eta, len(seed), n, len(f), e)
				}
			}
		}
	}
}

func TestMaskIsFarOfShake256(t *testing.T) {
	for _, p := range rows() {
		for k, seed := range seeds(64, 6) {
			for _, n := range indexes() {
				b := sha3.SumSHAKE256(indexed(seed, n), 32*p.width)
				f, e := Mask(p.set, seed, n)
				if e != nil || len(f) != count || !slices.Equal(f, lay.Far(p.half-1, p.half, b)) {
					t.Fatalf("P12.2: Mask(%d) of seed %d, %d: %d numbers, %v", p.set, k, n, len(f), e)
				}
			}
		}
	}
}

// Each number is g1 less the bits that tell it.
func TestMaskBitByBit(t *testing.T) {
	for _, p := range rows() {
		for k := range 5 {
			seed := drawnBytes(k, 64)
			f, e := Mask(p.set, seed, 300*k)
			b := sha3.SumSHAKE256(indexed(seed, 300*k), 32*p.width)
			if e != nil || len(f) != count {
				t.Fatalf("P12.2: Mask(%d) of seed %d: %d numbers, %v", p.set, k, len(f), e)
			}
			for i, x := range f {
				want := p.half
				for bit := range p.width {
					want -= slowBit(b, i*p.width+bit) << bit
				}
				if x != mod(want) {
					t.Fatalf("P12.2: number %d of Mask(%d) of seed %d is %d, not %d", i, p.set, k, x, mod(want))
				}
			}
		}
	}
}

func TestMaskOfOtherArguments(t *testing.T) {
	every := append(noSeeds(64), drawnBytes(1, 64))
	for _, seed := range every {
		for _, set := range noSets() {
			for _, n := range []int{0, 1, 65535, -1, 65536, math.MinInt, math.MaxInt} {
				if f, e := Mask(set, seed, n); !refused(f, e, api.ErrArg) {
					t.Errorf("P12.2: Mask(%d) of %d bytes, %d: %d numbers, %v", set, len(seed), n, len(f), e)
				}
			}
		}
		for _, n := range noIndexes() {
			for _, p := range rows() {
				if f, e := Mask(p.set, seed, n); !refused(f, e, api.ErrArg) {
					t.Errorf("P12.2: Mask(%d) of %d bytes, %d: %d numbers, %v", p.set, len(seed), n, len(f), e)
				}
			}
		}
	}
}

func TestMaskOfOtherSizes(t *testing.T) {
	for _, p := range rows() {
		for _, seed := range noSeeds(64) {
			for _, n := range []int{0, 1, 255, 256, 65535} {
				if f, e := Mask(p.set, seed, n); !refused(f, e, api.ErrSize) {
					t.Errorf("P12.2: Mask(%d) of %d bytes, %d: %d numbers, %v", p.set, len(seed), n, len(f), e)
				}
			}
		}
	}
}

func TestBallByTheWords(t *testing.T) {
	for _, p := range rows() {
		for k, seed := range seeds(p.challenge, 300) {
			f, e := Ball(p.set, seed)
			if want := slowBall(p.tau, sha3.SumSHAKE256(seed, most)); e != nil || !slices.Equal(f, want) {
				t.Fatalf("P12.2: Ball(%d) of seed %d is %v, %v, not %v", p.set, k, f, e, want)
			}
			kinds := map[int]int{}
			for _, x := range f {
				kinds[x]++
			}
			if kinds[1]+kinds[prime-1] != p.tau || kinds[0] != count-p.tau {
				t.Errorf("P12.2: Ball(%d) of seed %d has %v", p.set, k, kinds)
			}
		}
	}
}

func TestBallOfOtherSets(t *testing.T) {
	for _, set := range noSets() {
		for _, n := range []int{0, 1, 32, 48, 64} {
			if f, e := Ball(set, drawnBytes(n, n)); !refused(f, e, api.ErrArg) {
				t.Errorf("P12.2: Ball(%d) of %d bytes: %d numbers, %v", set, n, len(f), e)
			}
		}
		if f, e := Ball(set, nil); !refused(f, e, api.ErrArg) {
			t.Errorf("P12.2: Ball(%d) of nil: %d numbers, %v", set, len(f), e)
		}
	}
}

func TestBallOfOtherSizes(t *testing.T) {
	for _, p := range rows() {
		for _, seed := range noSeeds(p.challenge) {
			if f, e := Ball(p.set, seed); !refused(f, e, api.ErrSize) {
				t.Errorf("P12.2: Ball(%d) of %d bytes: %d numbers, %v", p.set, len(seed), len(f), e)
			}
		}
	}
}

// from reads such bytes in pieces, as a Sponge would, and counts those that were read.
func from(b []byte, read *int) func(n int) []byte {
	return func(n int) []byte {
		if n < 1 || n > len(b)-*read {
			return nil
		}
		*read += n
		return bytes.Clone(b[*read-n : *read])
	}
}

// threeBytes lays numbers of 23 bits, with the highest bit of each third byte, then fill again and again.
func threeBytes(highest byte, fill int, numbers ...int) []byte {
	var b []byte
	for k := range 1365 {
		x := fill
		if k < len(numbers) {
			x = numbers[k]
		}
		b = append(b, byte(x%256), byte(x/256%256), byte(x/65536)+highest)
	}
	return b
}

// Bytes that no seed is known to bring out: they are laid by hand where Even reads.
func TestEvenOfNumbersByHand(t *testing.T) {
	top := slices.Repeat([]int{1<<23 - 1}, 1365)
	putAt := func(at ...int) []int {
		found := slices.Clone(top)
		for _, k := range at {
			found[k] = 1000 + k
		}
		return found
	}
	run := make([]int, 300)
	for i := range run {
		run[i] = i + 1
	}
	for name, numbers := range map[string][]int{
		"all zeros": make([]int, 300), "all q - 1": slices.Repeat([]int{prime - 1}, 300), "all q": slices.Repeat([]int{prime}, 1365), "all are too great": top,
		"one behind the other": run, "the first is none": append([]int{prime}, run...), "the second is none": slices.Insert(slices.Clone(run), 1, prime), "q + 1 between": slices.Insert(slices.Clone(run), 100, prime+1),
		"q - 1, q, q - 2": {prime - 1, prime, prime - 2}, "255, and none": append(slices.Clone(run[:255]), top[255:]...),
		"the last of all": putAt(1364), "the last but one": putAt(1363), "the first of all": putAt(0), "about the pieces read": putAt(55, 56, 111, 112, 1343, 1344),
		"256, up to the last": append(slices.Clone(top[256:]), run[:256]...), "257, up to the last": append(slices.Clone(top[257:]), run[:257]...), "255, up to the last": append(slices.Clone(top[255:]), run[:255]...),
		"each byte's own": {1, 256, 65536, 1 << 22, 255, 255 << 8, 127 << 16, 126 << 16},
	} {
		for _, highest := range []byte{0, 128} {
			b, read := threeBytes(highest, 1<<23-1, numbers...), 0
			f := even(from(append(b, make([]byte, 300)...), &read))
			if want := slowEven(b); !slices.Equal(f, want) {
				t.Errorf("P12.1: even, %s, is %v, not %v", name, f, want)
			}
			if read > most-1 {
				t.Errorf("P12.1: even, %s, looks at %d bytes", name, read)
			}
		}
	}
	if f := even(from(threeBytes(0, 1<<23-1, top...), new(int))); !slices.Equal(f, make([]int, count)) {
		t.Errorf("P12.1: even of no number below q is %v", f)
	}
}

// halves lays so many halves of bytes, each of fill, but for those at some places.
func halves(fill int, others map[int]int) []byte {
	b := slices.Repeat([]byte{byte(fill * 17)}, most)
	for at, x := range others {
		if at%2 == 0 {
			b[at/2] = b[at/2]&240 | byte(x)
		} else {
			b[at/2] = b[at/2]&15 | byte(x)<<4
		}
	}
	return b
}

// What each four bits tell: by a table of the chapter's words.
func TestSmallOfEachHalf(t *testing.T) {
	const over = -99
	for eta, table := range map[int][]int{
		2: {2, 1, 0, -1, -2, 2, 1, 0, -1, -2, 2, 1, 0, -1, -2, over},
		4: {4, 3, 2, 1, 0, -1, -2, -3, -4, over, over, over, over, over, over, over},
	} {
		for x, told := range table {
			for at := range 4 {
				want := make([]int, count)
				if told != over {
					want[0] = mod(told)
				}
				f := small(eta, from(halves(15, map[int]int{at: x}), new(int)))
				if !slices.Equal(f, want) {
					t.Errorf("P12.1: small(%d) of %d at half %d is %v", eta, x, at, f)
				}
			}
		}
	}
}

// Bytes that no seed is known to bring out: they are laid by hand where Small reads.
func TestSmallOfHalvesByHand(t *testing.T) {
	spread := func(first, many, step int) map[int]int {
		found := map[int]int{}
		for k := range many {
			found[first+k*step] = k % 9
		}
		return found
	}
	for name, others := range map[string]map[int]int{
		"none": {}, "the first of all": {0: 1}, "the second": {1: 1}, "the last of all": {2*most - 1: 1}, "the last but one": {2*most - 2: 3}, "the first and the last": {0: 7, 2*most - 1: 8},
		"about the pieces read": {271: 1, 272: 3, 543: 4, 544: 5, 8159: 6, 8160: 7}, "255": spread(0, 255, 1), "256": spread(0, 256, 1), "257": spread(0, 257, 1), "300": spread(3, 300, 2),
		"256, up to the last": spread(2*most-256, 256, 1), "257, up to the last": spread(2*most-257, 257, 1), "255, up to the last": spread(2*most-255, 255, 1),
		"lower ones only": spread(0, 280, 2), "upper ones only": spread(1, 280, 2), "far from each other": spread(5, 256, 31),
	} {
		for _, eta := range []int{2, 4} {
			b, read := halves(15, others), 0
			f := small(eta, from(append(b, make([]byte, 300)...), &read))
			if want := slowSmall(eta, b); !slices.Equal(f, want) {
				t.Errorf("P12.1: small(%d), %s, is %v, not %v", eta, name, f, want)
			}
			if read > most {
				t.Errorf("P12.1: small(%d), %s, looks at %d bytes", eta, name, read)
			}
		}
	}
}

// ballBytes are signs, then places, then fill again and again.
func ballBytes(signs []byte, fill byte, places ...byte) []byte {
	b := slices.Concat(signs, places)
	return append(b, slices.Repeat([]byte{fill}, most-len(b))...)
}

func TestBallByHand(t *testing.T) {
	signs := []byte{0b0000_0101, 0, 0, 0, 0b0100_0000, 0, 0, 0} // bits 0, 2 and 38
	f := ball(39, from(ballBytes(signs, 3, 218, 217, 0, 255, 219, 0), new(int)))
	want := make([]int, count)
	want[217] = prime - 1 // 218 is passed over; bit 0
	want[218] = 0         // what number 0 was, which is 1 now
	want[219] = prime - 1 // 255 is passed over; bit 2
	want[220] = 1         // what number 0 was, which is 1 again
	want[0] = 1
	want[221] = 0                 // what number 3 was
	for i := 222; i <= 255; i++ { // what number 3 was, by bits 4 to 37
		want[i] = 1
	}
	want[3] = prime - 1 // bit 38
	if !slices.Equal(f, want) {
		t.Errorf("P12.2: ball is %v, not %v", f, want)
	}
}

// Where each number stays at its place, its bit is told there; the bits behind the last one tell nothing.
func TestBallOfEachSign(t *testing.T) {
	for _, p := range rows() {
		var stay []byte
		for i := count - p.tau; i < count; i++ {
			stay = append(stay, byte(i))
		}
		for bit := range 64 {
			signs := make([]byte, 8)
			signs[bit/8] = 1 << (bit % 8)
			want := make([]int, count)
			for i := count - p.tau; i < count; i++ {
				want[i] = 1
			}
			if bit < p.tau {
				want[count-p.tau+bit] = prime - 1
			}
			if f := ball(p.tau, from(ballBytes(signs, 0, stay...), new(int))); !slices.Equal(f, want) {
				t.Errorf("P12.2: ball(%d) with bit %d alone is %v", p.tau, bit, f)
			}
		}
	}
}

// Bytes that no seed is known to bring out: they are laid by hand where Ball reads.
func TestBallOfPlacesByHand(t *testing.T) {
	long := most - 8
	putAt := func(places map[int]byte) []byte {
		found := slices.Repeat([]byte{255}, long)
		for at, j := range places {
			found[at] = j
		}
		return found
	}
	run := func(from int, many int) map[int]byte {
		found := map[int]byte{}
		for k := range many {
			found[from+k] = byte(k * 7 % 190)
		}
		return found
	}
	for _, p := range rows() {
		for name, places := range map[string][]byte{
			"none": putAt(nil), "all zeros": make([]byte, long), "all 128": slices.Repeat([]byte{128}, long), "all 254": slices.Repeat([]byte{254}, long),
			"the first that may be": putAt(map[int]byte{0: byte(count - p.tau)}), "the first that may not": putAt(map[int]byte{0: byte(count - p.tau + 1)}),
			"the last of all": putAt(map[int]byte{long - 1: 5}), "about the pieces read": putAt(map[int]byte{127: 1, 128: 2, 135: 3, 136: 4, 137: 5, 263: 6, 264: 7, 271: 8, 272: 9, 4079: 10, 4080: 11}),
			"tau - 1": putAt(run(0, p.tau-1)), "tau": putAt(run(0, p.tau)), "tau + 1": putAt(run(0, p.tau+1)), "tau, up to the last": putAt(run(long-p.tau, p.tau)),
			"tau - 1, up to the last": putAt(run(long-p.tau+1, p.tau-1)), "tau + 1, up to the last": putAt(run(long-p.tau-1, p.tau+1)),
		} {
			b, read := ballBytes([]byte{0x35, 0xc1, 0, 255, 0x5a, 0x99, 0x0f, 0xf0}, 255, places...), 0
			f := ball(p.tau, from(append(b, make([]byte, 300)...), &read))
			if want := slowBall(p.tau, b); !slices.Equal(f, want) {
				t.Errorf("P12.2: ball(%d), %s, is %v, not %v", p.tau, name, f, want)
			}
			if read > most {
				t.Errorf("P12.2: ball(%d), %s, looks at %d bytes", p.tau, name, read)
			}
		}
	}
}

func BenchmarkEven(b *testing.B) {
	seed := drawnBytes(1, 32)
	for b.Loop() {
		Even(seed, 0, 1)
	}
}

func BenchmarkSmall(b *testing.B) {
	seed := drawnBytes(1, 64)
	for b.Loop() {
		Small(4, seed, 1)
	}
}

func BenchmarkMask(b *testing.B) {
	seed := drawnBytes(1, 64)
	for b.Loop() {
		Mask(1, seed, 1)
	}
}

func BenchmarkBall(b *testing.B) {
	seed := drawnBytes(1, 32)
	for b.Loop() {
		Ball(1, seed)
	}
}
