package kem

import (
	"bytes"
	"crypto/mlkem"
	"crypto/mlkem/mlkemtest"
	"crypto/sha3"
	"encoding/hex"
	"errors"
	"math"
	"math/rand"
	"slices"
	"sync"
	"testing"

	"chatelaine/api"
	"chatelaine/pke"
)

// row is what the chapters say of a set; inner is the size of pke's opening key.
type row struct{ set, inner, seal, open, sealed int }

func rows() []row {
	return []row{{1, 768, 800, 1632, 768}, {2, 1152, 1184, 2400, 1088}, {3, 1536, 1568, 3168, 1568}}
}

// hashAt and zAt are where these parts of an opening key begin; pke's part begins at 0, the sealing key behind it.
func (p row) hashAt() int { return p.inner + p.seal }
func (p row) zAt() int    { return p.inner + p.seal + 32 }

// noSets are none of 1 to 3; some are, if they are cut to 32, 16 or 8 bits, or their sign is.
func noSets() []int {
	return []int{0, 4, 5, 512, 768, 1024, -1, -2, -3, -4, 256 + 1, 256 + 3, 1<<16 + 2, 1<<32 + 1, 1<<32 + 2, -1<<32 + 3,
		math.MinInt, math.MinInt + 1, math.MinInt + 2, math.MinInt + 3, math.MaxInt, math.MaxInt - 1}
}

// drawnBytes are the same for the same seed.
func drawnBytes(seed int, many int) []byte {
	b := make([]byte, many)
	rand.New(rand.NewSource(int64(seed))).Read(b)
	return b
}

// ordinary are so many bytes: all 0, all 255, and drawn ones.
func ordinary(size int, many int) [][]byte {
	found := [][]byte{make([]byte, size), slices.Repeat([]byte{255}, size)}
	for k := range many {
		found = append(found, drawnBytes(k, size))
	}
	return found
}

// otherSizes are bytes that are not so many; some are, if their length is cut to 8 or 16 bits, or their spare room is counted.
func otherSizes(size int) [][]byte {
	found := [][]byte{nil, {}, make([]byte, size)[:0], make([]byte, size)[:size-1], make([]byte, 2*size)[:size+1]}
	for _, n := range []int{1, 16, size / 2, size - 2, size - 1, size + 1, size + 2, size + 32, 2 * size, 256 + size, 1<<16 + size} {
		found = append(found, make([]byte, n))
	}
	return found
}

// changed is b with one byte another one.
func changed(b []byte, at int) []byte {
	other := slices.Clone(b)
	other[at] ^= byte(1 + at%255)
	return other
}

// is tells whether an error is, or wraps, a Fault with that Errno; whether there is none, of OK.
func is(e error, want api.Errno) bool {
	if want == api.OK {
		return e == nil
	}
	var f *api.Fault
	return errors.As(e, &f) && f.Code == want && errors.Is(e, want) && api.Code(e) == want
}

// refused tells whether a call answered such an error, and nothing beside it.
func refused(b []byte, e error, want api.Errno) bool { return len(b) == 0 && e != nil && is(e, want) }

func sha256(parts ...[]byte) []byte {
	sum := sha3.Sum256(slices.Concat(parts...))
	return sum[:]
}

func sha512(parts ...[]byte) []byte {
	sum := sha3.Sum512(slices.Concat(parts...))
	return sum[:]
}

func shake256(parts ...[]byte) []byte { return sha3.SumSHAKE256(slices.Concat(parts...), 32) }

// keysFor are a set's keys of a seed of 64 bytes.
func keysFor(t *testing.T, set int, seed []byte) ([]byte, []byte) {
	t.Helper()
	seal, open, e := Keys(set, seed)
	if e != nil {
		t.Fatalf("P8.1: Keys of set %d: %v", set, e)
	}
	return seal, open
}

func sealFor(t *testing.T, set int, seal, m []byte) ([]byte, []byte) {
	t.Helper()
	c, secret, e := Seal(set, seal, m)
	if e != nil {
		t.Fatalf("P8.2: Seal of set %d: %v", set, e)
	}
	return c, secret
}

// hashed is an opening key with the hash of the sealing key that is in it, whichever that is.
func (p row) hashed(open []byte) []byte {
	found := slices.Clone(open)
	copy(found[p.hashAt():], sha256(found[p.inner:p.hashAt()]))
	return found
}

// withNumber lays the number x of 12 bits at a place of the polys that begin at a byte of b.
func withNumber(b []byte, begin int, place int, x int) []byte {
	found := slices.Clone(b)
	for k := range 12 {
		at := 8*begin + 12*place + k
		found[at/8] &^= 1 << (at % 8)
		found[at/8] |= byte(x>>k&1) << (at % 8)
	}
	return found
}

// places are of a key's numbers: the first, some, the last.
func (p row) places() []int {
	last := p.inner*2/3 - 1
	return []int{0, 1, 2, 255, 256, 300, last / 2, last - 1, last}
}

// slowOpen goes by the chapter's words, of a key and bytes that are right.
func slowOpen(t *testing.T, p row, open, c []byte) []byte {
	t.Helper()
	m, e := pke.Open(p.set, open[:p.inner], c)
	if e != nil {
		t.Fatal(e)
	}
	both := sha512(m, open[p.hashAt():p.zAt()])
	again, e := pke.Seal(p.set, open[p.inner:p.hashAt()], m, both[32:])
	if e != nil {
		t.Fatal(e)
	}
	if bytes.Equal(again, c) {
		return both[:32]
	}
	return shake256(open[p.zAt():], c)
}

func TestExample(t *testing.T) {
	if a, b, c := Sizes(3); a != 1568 || b != 3168 || c != 1568 {
		t.Errorf("P8.1: Sizes(3) is %d, %d, %d", a, b, c)
	}
}

func TestSizes(t *testing.T) {
	for _, p := range rows() {
		a, b, c := Sizes(p.set)
		if a != p.seal || b != p.open || c != p.sealed {
			t.Errorf("P8.1: Sizes(%d) is %d, %d, %d", p.set, a, b, c)
		}
		seal, _, sealed := pke.Sizes(p.set)
		if of, _ := pke.Of(p.set); a != seal || b != 768*of.K+96 || c != sealed {
			t.Errorf("P8.1: Sizes(%d) is %d, %d, %d, not what pke tells", p.set, a, b, c)
		}
	}
	for _, set := range noSets() {
		if a, b, c := Sizes(set); a != 0 || b != 0 || c != 0 {
			t.Errorf("P8.1: Sizes(%d) is %d, %d, %d", set, a, b, c)
		}
	}
}

func TestKeysByTheWords(t *testing.T) {
	for _, p := range rows() {
		for k, seed := range ordinary(64, 12) {
			seal, open := keysFor(t, p.set, seed)
			if len(seal) != p.seal || len(open) != p.open {
				t.Fatalf("P8.1: Keys of set %d have %d and %d bytes", p.set, len(seal), len(open))
			}
			wantSeal, inner, e := pke.Keys(p.set, seed[:32])
			if e != nil || !bytes.Equal(seal, wantSeal) {
				t.Errorf("P8.1: the sealing key of set %d, seed %d, is not pke's: %v", p.set, k, e)
			}
			if want := slices.Concat(inner, wantSeal, sha256(wantSeal), seed[32:]); !bytes.Equal(open, want) {
				t.Errorf("P8.1: the opening key of set %d, seed %d, is another one", p.set, k)
			}
			if e := MaySeal(p.set, seal); e != nil {
				t.Errorf("P8.1: MaySeal(%d) of what Keys told of seed %d: %v", p.set, k, e)
			}
			if e := MayOpen(p.set, open); e != nil {
				t.Errorf("P8.1: MayOpen(%d) of what Keys told of seed %d: %v", p.set, k, e)
			}
		}
	}
}

// The first half brings forth all but the last 32 bytes, the second half these alone.
func TestKeysOfHalves(t *testing.T) {
	for _, p := range rows() {
		seed := drawnBytes(p.set, 64)
		seal, open := keysFor(t, p.set, seed)
		for at := range 64 {
			seal2, open2 := keysFor(t, p.set, changed(seed, at))
			first := at < 32
			if bytes.Equal(seal2, seal) == first || bytes.Equal(open2[:p.inner], open[:p.inner]) == first {
				t.Errorf("P8.1: Keys(%d) of a seed with byte %d another one: wrong keys of pke", p.set, at)
			}
			if bytes.Equal(open2[p.zAt():], open[p.zAt():]) != first {
				t.Errorf("P8.1: Keys(%d) of a seed with byte %d another one: a wrong end", p.set, at)
			}
		}
	}
}

func TestKeysOfOtherSizes(t *testing.T) {
	wrong := append(otherSizes(64), drawnBytes(1, 32), drawnBytes(1, 63), drawnBytes(1, 65))
	for _, p := range rows() {
		for _, seed := range wrong {
			if seal, open, e := Keys(p.set, seed); len(open) != 0 || !refused(seal, e, api.ErrSize) {
				t.Errorf("P8.1: Keys(%d) of %d bytes: %d and %d bytes, %v", p.set, len(seed), len(seal), len(open), e)
			}
		}
	}
	for _, set := range noSets() {
		for _, seed := range append(wrong, drawnBytes(1, 64)) {
			if seal, open, e := Keys(set, seed); len(open) != 0 || !refused(seal, e, api.ErrArg) {
				t.Errorf("P8.1: Keys(%d) of %d bytes: %d and %d bytes, %v", set, len(seed), len(seal), len(open), e)
			}
		}
	}
}

// wrongSeals are what MaySeal refuses of a set, by the error.
func (p row) wrongSeals(seal []byte) map[api.Errno][][]byte {
	found := map[api.Errno][][]byte{api.ErrSize: append(otherSizes(p.seal), seal[1:], seal[:p.seal-1], append(slices.Clone(seal), 0), slices.Repeat([]byte{255}, p.seal+1))}
	for _, place := range p.places() {
		for _, x := range []int{3329, 3330, 4095} {
			found[api.ErrForm] = append(found[api.ErrForm], withNumber(seal, 0, place, x))
		}
	}
	return found
}

func TestMaySeal(t *testing.T) {
	for _, p := range rows() {
		seal, open := keysFor(t, p.set, drawnBytes(p.set, 64))
		if e := MaySeal(p.set, open); !is(e, api.ErrSize) {
			t.Errorf("P8.1: MaySeal(%d) of an opening key: %v", p.set, e)
		}
		for _, tail := range ordinary(32, 2) {
			may := slices.Concat(seal[:p.inner], tail)
			for _, place := range p.places() {
				for _, x := range []int{0, 1, 3328} {
					if e := MaySeal(p.set, withNumber(may, 0, place, x)); e != nil {
						t.Errorf("P8.1: MaySeal(%d) of a key with %d at place %d: %v", p.set, x, place, e)
					}
				}
			}
		}
		for want, wrong := range p.wrongSeals(seal) {
			for k, b := range wrong {
				if e := MaySeal(p.set, b); !is(e, want) || api.Code(e) != api.Code(pke.May(p.set, b)) {
					t.Errorf("P8.1: MaySeal(%d) of wrong key %d, %d bytes: %v, not %v", p.set, k, len(b), e, want)
				}
			}
		}
		for _, other := range rows() {
			if e := MaySeal(other.set, seal); is(e, api.OK) != (other.set == p.set) || other.set != p.set && !is(e, api.ErrSize) {
				t.Errorf("P8.1: MaySeal(%d) of a key of set %d: %v", other.set, p.set, e)
			}
		}
		for _, set := range noSets() {
			for _, b := range [][]byte{seal, seal[1:], slices.Repeat([]byte{255}, p.seal), {}, nil} {
				if e := MaySeal(set, b); !is(e, api.ErrArg) {
					t.Errorf("P8.1: MaySeal(%d) of %d bytes: %v", set, len(b), e)
				}
			}
		}
	}
}

// Of one byte that is another one, each place: the sealing key and its hash must fit, all else may be anything.
func TestMayOpenOfEachByte(t *testing.T) {
	for _, p := range rows() {
		_, open := keysFor(t, p.set, drawnBytes(p.set, 64))
		for at := range open {
			want := api.OK
			if at >= p.inner && at < p.zAt() {
				want = api.ErrForm
			}
			if e := MayOpen(p.set, changed(open, at)); !is(e, want) {
				t.Fatalf("P8.1: MayOpen(%d) of a key with byte %d another one: %v", p.set, at, e)
			}
		}
	}
}

// Whatever stands in the other parts, numbers of 3329 and above too, it is the hash alone that counts.
func TestMayOpenAsksTheHashAlone(t *testing.T) {
	for _, p := range rows() {
		for _, inner := range ordinary(p.inner, 1) {
			for _, seal := range ordinary(p.seal, 1) {
				for _, z := range ordinary(32, 1) {
					if e := MayOpen(p.set, slices.Concat(inner, seal, sha256(seal), z)); e != nil {
						t.Errorf("P8.1: MayOpen(%d) of a right hash: %v", p.set, e)
					}
					for _, hash := range [][]byte{make([]byte, 32), sha256(inner), sha256(inner, seal), sha256(seal, z), sha512(seal)[:32], shake256(seal), z} {
						if e := MayOpen(p.set, slices.Concat(inner, seal, hash, z)); !is(e, api.ErrForm) {
							t.Errorf("P8.1: MayOpen(%d) of a wrong hash: %v", p.set, e)
						}
					}
				}
			}
		}
	}
}

// shortOpens are keys of a wrong size, right ones that are cut or drawn out among them.
func (p row) shortOpens(seal, open []byte) [][]byte {
	return append(otherSizes(p.open), open[1:], open[:p.open-1], append(slices.Clone(open), 0), open[:p.inner], open[:p.zAt()], seal)
}

func TestMayOpenOfOtherSizes(t *testing.T) {
	for _, p := range rows() {
		seal, open := keysFor(t, p.set, drawnBytes(p.set, 64))
		for _, b := range p.shortOpens(seal, open) {
			if e := MayOpen(p.set, b); !is(e, api.ErrSize) {
				t.Errorf("P8.1: MayOpen(%d) of %d bytes: %v", p.set, len(b), e)
			}
		}
		for _, other := range rows() {
			if e := MayOpen(other.set, open); is(e, api.OK) != (other.set == p.set) || other.set != p.set && !is(e, api.ErrSize) {
				t.Errorf("P8.1: MayOpen(%d) of a key of set %d: %v", other.set, p.set, e)
			}
		}
	}
}

// Of several that are wrong the set is told first, then the size.
func TestMayOpenTellsTheFirst(t *testing.T) {
	for _, p := range rows() {
		_, open := keysFor(t, p.set, drawnBytes(p.set, 64))
		torn := changed(open, p.hashAt())
		for _, b := range [][]byte{torn[1:], torn[:p.open-1], append(slices.Clone(torn), 0)} {
			if e := MayOpen(p.set, b); !is(e, api.ErrSize) {
				t.Errorf("P8.1: MayOpen(%d) of %d bytes with a wrong hash: %v", p.set, len(b), e)
			}
		}
		for _, set := range noSets() {
			for _, b := range [][]byte{open, torn, torn[1:], open[1:], {}, nil} {
				if e := MayOpen(set, b); !is(e, api.ErrArg) {
					t.Errorf("P8.1: MayOpen(%d) of %d bytes: %v", set, len(b), e)
				}
			}
		}
	}
}

func TestSealByTheWords(t *testing.T) {
	for _, p := range rows() {
		for k, seed := range ordinary(64, 2) {
			seal, _ := keysFor(t, p.set, seed)
			for n, m := range ordinary(32, 5) {
				c, secret := sealFor(t, p.set, seal, m)
				both := sha512(m, sha256(seal))
				if !bytes.Equal(secret, both[:32]) {
					t.Errorf("P8.2: Seal(%d) of key %d, message %d tells another secret", p.set, k, n)
				}
				if want, e := pke.Seal(p.set, seal, m, both[32:]); e != nil || len(c) != p.sealed || !bytes.Equal(c, want) {
					t.Errorf("P8.2: Seal(%d) of key %d, message %d tells other bytes, %d of them: %v", p.set, k, n, len(c), e)
				}
			}
		}
	}
}

// Keys that Keys never told may seal, too.
func TestSealWithOtherKeys(t *testing.T) {
	for _, p := range rows() {
		for n, polys := range [][]byte{make([]byte, p.inner), slices.Repeat([]byte{1}, p.inner), slices.Repeat([]byte{0x00, 0x0D, 0xD0}, p.inner/3)} {
			for k, rho := range ordinary(32, 1) {
				seal, m := slices.Concat(polys, rho), drawnBytes(n, 32)
				c, secret := sealFor(t, p.set, seal, m)
				both := sha512(m, sha256(seal))
				if want, e := pke.Seal(p.set, seal, m, both[32:]); e != nil || !bytes.Equal(c, want) || !bytes.Equal(secret, both[:32]) {
					t.Errorf("P8.2: Seal(%d) with polys %d, rho %d is another one: %v", p.set, n, k, e)
				}
			}
		}
	}
}

func TestSealOfWrong(t *testing.T) {
	for _, p := range rows() {
		seal, _ := keysFor(t, p.set, drawnBytes(p.set, 64))
		m := drawnBytes(1, 32)
		for _, short := range otherSizes(32) {
			if c, secret, e := Seal(p.set, seal, short); len(secret) != 0 || !refused(c, e, api.ErrSize) {
				t.Errorf("P8.2: Seal(%d) of a message of %d bytes: %v", p.set, len(short), e)
			}
		}
		for want, wrong := range p.wrongSeals(seal) {
			for k, b := range wrong {
				for _, message := range [][]byte{m, m[1:], append(slices.Clone(m), 0), {}, nil} {
					if c, secret, e := Seal(p.set, b, message); len(secret) != 0 || !refused(c, e, want) {
						t.Errorf("P8.2: Seal(%d) with wrong key %d of a message of %d bytes: %v, not %v", p.set, k, len(message), e, want)
					}
				}
			}
		}
		for _, set := range noSets() {
			for _, x := range [][2][]byte{{seal, m}, {seal[1:], m}, {seal, m[1:]}, {slices.Repeat([]byte{255}, p.seal), nil}, {nil, nil}} {
				if c, secret, e := Seal(set, x[0], x[1]); len(secret) != 0 || !refused(c, e, api.ErrArg) {
					t.Errorf("P8.2: Seal(%d) with a key of %d bytes, of %d: %v", set, len(x[0]), len(x[1]), e)
				}
			}
		}
	}
}

func TestWhatIsSealedIsOpened(t *testing.T) {
	for _, p := range rows() {
		for k, seed := range ordinary(64, 5) {
			seal, open := keysFor(t, p.set, seed)
			for n, m := range ordinary(32, 6) {
				c, secret := sealFor(t, p.set, seal, m)
				if !Right(p.set, open, c, m) {
					t.Errorf("P8.2: Right(%d) of key %d, message %d is false", p.set, k, n)
				}
				if got, e := Open(p.set, open, c); e != nil || !bytes.Equal(got, secret) {
					t.Errorf("P8.3: Open(%d) of key %d, message %d is %x, %v", p.set, k, n, got, e)
				}
			}
		}
	}
}

func TestOpenOfOtherBytes(t *testing.T) {
	for _, p := range rows() {
		seed := drawnBytes(p.set, 64)
		seal, open := keysFor(t, p.set, seed)
		c, _ := sealFor(t, p.set, seal, drawnBytes(9, 32))
		for _, at := range []int{0, 1, p.sealed / 3, p.sealed / 2, p.sealed - 2, p.sealed - 1} {
			odd := changed(c, at)
			if got, e := Open(p.set, open, odd); e != nil || !bytes.Equal(got, shake256(seed[32:], odd)) {
				t.Errorf("P8.2: Open(%d) of bytes with the one at %d another one: %x, %v", p.set, at, got, e)
			}
		}
		for k, odd := range ordinary(p.sealed, 4) {
			if got, e := Open(p.set, open, odd); e != nil || !bytes.Equal(got, shake256(seed[32:], odd)) {
				t.Errorf("P8.2: Open(%d) of any bytes, the %d-th: %x, %v", p.set, k, got, e)
			}
		}
	}
}

// Each bit of what is sealed counts, though most of them leave the message as it is.
func TestOpenOfEachBit(t *testing.T) {
	p := rows()[0]
	seal, open := keysFor(t, p.set, drawnBytes(5, 64))
	m := drawnBytes(6, 32)
	c, _ := sealFor(t, p.set, seal, m)
	right := 0
	for k := 0; k < 8*p.sealed; k += 5 {
		odd := slices.Clone(c)
		odd[k/8] ^= 1 << (k % 8)
		if Right(p.set, open, odd, m) {
			right++
		}
		if got, e := Open(p.set, open, odd); e != nil || !bytes.Equal(got, shake256(open[p.zAt():], odd)) {
			t.Fatalf("P8.2: Open of bytes with bit %d another one: %x, %v", k, got, e)
		}
	}
	if right == 0 {
		t.Error("P8.2: Right is false of each bit that is another one")
	}
}

// What was sealed with another r holds the message, and is not what Seal tells.
func TestOpenOfAnotherR(t *testing.T) {
	for _, p := range rows() {
		seal, open := keysFor(t, p.set, drawnBytes(p.set, 64))
		m := drawnBytes(3, 32)
		both := sha512(m, sha256(seal))
		for k, r := range [][]byte{both[:32], drawnBytes(4, 32), make([]byte, 32)} {
			c, e := pke.Seal(p.set, seal, m, r)
			if e != nil || !Right(p.set, open, c, m) {
				t.Fatalf("P8.2: Right(%d) of r %d is false: %v", p.set, k, e)
			}
			if got, e := Open(p.set, open, c); e != nil || !bytes.Equal(got, shake256(open[p.zAt():], c)) {
				t.Errorf("P8.2: Open(%d) of r %d is %x, %v", p.set, k, got, e)
			}
		}
	}
}

// Keys whose parts are of different seeds, with a hash that is right, open by the chapter's words.
func TestOpenWithOtherKeys(t *testing.T) {
	for _, p := range rows() {
		seal, open := keysFor(t, p.set, drawnBytes(p.set, 64))
		seal2, open2 := keysFor(t, p.set, drawnBytes(50+p.set, 64))
		m := drawnBytes(8, 32)
		c, secret := sealFor(t, p.set, seal, m)
		c2, _ := sealFor(t, p.set, seal2, m)
		lastOther := slices.Concat(open[:p.zAt()], open2[p.zAt():])
		if got, e := Open(p.set, lastOther, c); e != nil || !bytes.Equal(got, secret) {
			t.Errorf("P8.2: Open(%d) with other last bytes is %x, %v", p.set, got, e)
		}
		for k, key := range [][]byte{
			open, open2, lastOther,
			slices.Concat(open2[:p.inner], open[p.inner:]),
			p.hashed(slices.Concat(open[:p.inner], open2[p.inner:])),
			slices.Concat(make([]byte, p.inner), open[p.inner:]),
			p.hashed(make([]byte, p.open)),
			withNumber(open, 0, 0, 3328), withNumber(open, 0, p.inner*2/3-1, 3328), p.hashed(withNumber(open, p.inner, 0, 3328)),
		} {
			for n, b := range [][]byte{c, c2, changed(c, 0), make([]byte, p.sealed)} {
				if got, e := Open(p.set, key, b); e != nil || !bytes.Equal(got, slowOpen(t, p, key, b)) {
					t.Errorf("P8.2: Open(%d) with key %d of bytes %d is %x, %v", p.set, k, n, got, e)
				}
			}
		}
	}
}

func TestOpenOfOtherSizes(t *testing.T) {
	for _, p := range rows() {
		seal, open := keysFor(t, p.set, drawnBytes(p.set, 64))
		c, _ := sealFor(t, p.set, seal, drawnBytes(1, 32))
		for _, b := range append(otherSizes(p.sealed), c[1:], c[:p.sealed-1], append(slices.Clone(c), 0)) {
			if secret, e := Open(p.set, open, b); !refused(secret, e, api.ErrSize) {
				t.Errorf("P8.2: Open(%d) of %d bytes: %x, %v", p.set, len(b), secret, e)
			}
		}
		for _, key := range p.shortOpens(seal, open) {
			for _, b := range [][]byte{c, c[1:], nil} {
				if secret, e := Open(p.set, key, b); !refused(secret, e, api.ErrSize) {
					t.Errorf("P8.2: Open(%d) with a key of %d bytes, of %d: %x, %v", p.set, len(key), len(b), secret, e)
				}
			}
		}
	}
}

// The hash in a key is told ahead of the size of what is sealed.
func TestOpenWithAWrongHash(t *testing.T) {
	for _, p := range rows() {
		seal, open := keysFor(t, p.set, drawnBytes(p.set, 64))
		c, _ := sealFor(t, p.set, seal, drawnBytes(1, 32))
		for _, at := range []int{p.inner, p.inner + p.seal/2, p.hashAt() - 1, p.hashAt(), p.hashAt() + 16, p.zAt() - 1} {
			for _, b := range [][]byte{c, c[1:], append(slices.Clone(c), 0), {}, nil} {
				if secret, e := Open(p.set, changed(open, at), b); !refused(secret, e, api.ErrForm) {
					t.Errorf("P8.2: Open(%d) with byte %d of the key another one, of %d bytes: %x, %v", p.set, at, len(b), secret, e)
				}
			}
		}
	}
}

// The size of what is sealed is told ahead of numbers that are none.
func TestOpenWithGreatNumbers(t *testing.T) {
	for _, p := range rows() {
		seal, open := keysFor(t, p.set, drawnBytes(p.set, 64))
		c, _ := sealFor(t, p.set, seal, drawnBytes(1, 32))
		for _, place := range p.places() {
			for _, x := range []int{3329, 3330, 4095} {
				inner, inSeal := withNumber(open, 0, place, x), p.hashed(withNumber(open, p.inner, place, x))
				both := p.hashed(withNumber(inner, p.inner, place, x))
				for k, key := range [][]byte{inner, inSeal, both} {
					if e := MayOpen(p.set, key); e != nil {
						t.Fatalf("P8.1: MayOpen(%d) of key %d with %d at place %d: %v", p.set, k, x, place, e)
					}
					if secret, e := Open(p.set, key, c); !refused(secret, e, api.ErrForm) {
						t.Errorf("P8.2: Open(%d) with key %d with %d at place %d: %x, %v", p.set, k, x, place, secret, e)
					}
					for _, b := range [][]byte{c[1:], append(slices.Clone(c), 0), {}, nil} {
						if secret, e := Open(p.set, key, b); !refused(secret, e, api.ErrSize) {
							t.Errorf("P8.2: Open(%d) with key %d with %d at place %d, of %d bytes: %x, %v", p.set, k, x, place, len(b), secret, e)
						}
					}
				}
			}
		}
	}
}

func TestOpenOfNoSet(t *testing.T) {
	for _, p := range rows() {
		seal, open := keysFor(t, p.set, drawnBytes(p.set, 64))
		c, _ := sealFor(t, p.set, seal, drawnBytes(1, 32))
		for _, set := range noSets() {
			for _, x := range [][2][]byte{{open, c}, {changed(open, p.hashAt()), c}, {open[1:], c}, {open, c[1:]}, {nil, nil}, {{}, {}}} {
				if secret, e := Open(set, x[0], x[1]); !refused(secret, e, api.ErrArg) {
					t.Errorf("P8.2: Open(%d) with a key of %d bytes, of %d: %x, %v", set, len(x[0]), len(x[1]), secret, e)
				}
			}
		}
	}
}

func TestRight(t *testing.T) {
	for _, p := range rows() {
		seal, open := keysFor(t, p.set, drawnBytes(p.set, 64))
		_, open2 := keysFor(t, p.set, drawnBytes(50+p.set, 64))
		for n, m := range ordinary(32, 3) {
			c, _ := sealFor(t, p.set, seal, m)
			other, _ := sealFor(t, p.set, seal, drawnBytes(99, 32))
			if !Right(p.set, open, c, m) || Right(p.set, open, other, m) || Right(p.set, open2, c, m) {
				t.Errorf("P8.2: Right(%d) of message %d is another one", p.set, n)
			}
			for at := range m {
				if Right(p.set, open, c, changed(m, at)) {
					t.Errorf("P8.2: Right(%d) of message %d with byte %d another one", p.set, n, at)
				}
			}
			for _, wrong := range [][]byte{nil, {}, m[:31], m[1:], append(slices.Clone(m), 0), append(slices.Clone(m), m...), make([]byte, 64)} {
				if Right(p.set, open, c, wrong) {
					t.Errorf("P8.2: Right(%d) of message %d, and of %d bytes", p.set, n, len(wrong))
				}
			}
		}
	}
}

// Of any bytes, Right is of what pke opens alone.
func TestRightOfAnyBytes(t *testing.T) {
	for _, p := range rows() {
		_, open := keysFor(t, p.set, drawnBytes(p.set, 64))
		for k, c := range ordinary(p.sealed, 4) {
			m, e := pke.Open(p.set, open[:p.inner], c)
			if e != nil || !Right(p.set, open, c, m) || Right(p.set, open, c, changed(m, k)) {
				t.Errorf("P8.2: Right(%d) of bytes %d is another one: %v", p.set, k, e)
			}
		}
	}
}

// Right asks pke's part of the key: what the rest is does not matter.
func TestRightOfTheInnerKey(t *testing.T) {
	for _, p := range rows() {
		seal, open := keysFor(t, p.set, drawnBytes(p.set, 64))
		m := drawnBytes(1, 32)
		c, _ := sealFor(t, p.set, seal, m)
		for _, at := range []int{p.inner, p.hashAt() - 1, p.hashAt(), p.zAt() - 1, p.zAt(), p.open - 1} {
			if !Right(p.set, changed(open, at), c, m) {
				t.Errorf("P8.2: Right(%d) with byte %d of the key another one is false", p.set, at)
			}
		}
	}
}

func TestRightOfWrong(t *testing.T) {
	for _, p := range rows() {
		seal, open := keysFor(t, p.set, drawnBytes(p.set, 64))
		m := drawnBytes(1, 32)
		c, _ := sealFor(t, p.set, seal, m)
		for _, place := range p.places() {
			for _, x := range []int{3329, 4095} {
				if great := withNumber(open, 0, place, x); Right(p.set, great, c, m) || Right(p.set, great, c, nil) {
					t.Errorf("P8.2: Right(%d) with %d at place %d", p.set, x, place)
				}
			}
		}
		for _, b := range append(otherSizes(p.sealed), c[1:], c[:p.sealed-1], append(slices.Clone(c), 0)) {
			if Right(p.set, open, b, m) || Right(p.set, open, b, nil) {
				t.Errorf("P8.2: Right(%d) of %d bytes", p.set, len(b))
			}
		}
		for _, key := range p.shortOpens(seal, open) {
			if Right(p.set, key, c, m) || Right(p.set, key, c, nil) || Right(p.set, key, nil, nil) {
				t.Errorf("P8.2: Right(%d) with a key of %d bytes", p.set, len(key))
			}
		}
		for _, set := range append(noSets(), p.set%3+1) {
			if Right(set, open, c, m) || Right(set, open, c, nil) || Right(set, nil, nil, nil) {
				t.Errorf("P8.2: Right(%d) with a key of set %d", set, p.set)
			}
		}
	}
}

// outside is what the library tells of a set and a seed, as ML-KEM-768 and ML-KEM-1024 of FIPS 203.
type outside struct {
	set  int
	seal []byte
	ask  func(m []byte) ([]byte, []byte, error)
	open func(c []byte) ([]byte, error)
}

func outsides(t *testing.T, seed []byte) []outside {
	second, e := mlkem.NewDecapsulationKey768(seed)
	third, e2 := mlkem.NewDecapsulationKey1024(seed)
	if e != nil || e2 != nil {
		t.Fatal(e, e2)
	}
	return []outside{
		{2, second.EncapsulationKey().Bytes(), func(m []byte) ([]byte, []byte, error) {
			return mlkemtest.Encapsulate768(second.EncapsulationKey(), m)
		}, second.Decapsulate},
		{3, third.EncapsulationKey().Bytes(), func(m []byte) ([]byte, []byte, error) {
			return mlkemtest.Encapsulate1024(third.EncapsulationKey(), m)
		}, third.Decapsulate},
	}
}

func TestByTheLibrary(t *testing.T) {
	for k := range 25 {
		seed, m := drawnBytes(k, 64), drawnBytes(1000+k, 32)
		for _, x := range outsides(t, seed) {
			seal, open := keysFor(t, x.set, seed)
			if !bytes.Equal(seal, x.seal) {
				t.Fatalf("P8.1: Keys of set %d, seed %d, are not FIPS 203's", x.set, k)
			}
			c, secret := sealFor(t, x.set, seal, m)
			wantSecret, wantC, e := x.ask(m)
			if e != nil || !bytes.Equal(c, wantC) || !bytes.Equal(secret, wantSecret) {
				t.Fatalf("P8.2: Seal of set %d, message %d, is not FIPS 203's: %v", x.set, k, e)
			}
			for _, b := range [][]byte{c, changed(c, 7*k), changed(c, len(c)-1-k), drawnBytes(k, len(c))} {
				want, e := x.open(b)
				if got, e2 := Open(x.set, open, b); e != nil || e2 != nil || !bytes.Equal(got, want) {
					t.Fatalf("P8.2: Open of set %d, key %d, is not FIPS 203's: %v, %v", x.set, k, e, e2)
				}
			}
		}
	}
}

// Hashes of a hundred keys, sealed secrets and secrets, out of one SHAKE128. That of set 2 stands in the library's own tests; that of set 1, which the library has not,
// was told by another implementation of ML-KEM-512; that of set 3 by this one, once it was held against the library.
func TestManyByOneHash(t *testing.T) {
	for set, want := range map[int]string{
		1: "86b1b4703b8ffef6f7f3290c6dbce4ad954498a0673ded401a94828e8c519a59",
		2: "1114b1b6699ed191734fa339376afa7e285c9e6acf6ff0177d346696ce564415",
		3: "800018fec3e2723f73f1d657fe239b4d5d8782efaade297e8cd448e54cc2ac00",
	} {
		source, sum := sha3.NewSHAKE128(), sha3.NewSHAKE128()
		next := func(n int) []byte {
			b := make([]byte, n)
			source.Read(b)
			return b
		}
		for range 100 {
			seal, open := keysFor(t, set, next(64))
			c, secret := sealFor(t, set, seal, next(32))
			other, e := Open(set, open, next(len(c)))
			if e != nil {
				t.Fatalf("P8.2: Open(%d): %v", set, e)
			}
			for _, b := range [][]byte{seal, c, secret, other} {
				sum.Write(b)
			}
		}
		got := make([]byte, 32)
		sum.Read(got)
		if hex.EncodeToString(got) != want {
			t.Errorf("P8.1 to P8.3: set %d tells %x", set, got)
		}
	}
}

// failure is a call that is refused.
type failure struct {
	name string
	want api.Errno
	ask  func() error
}

func failures() []failure {
	p := rows()[0]
	sealing, opening, _ := Keys(1, make([]byte, 64))
	great, c := slices.Repeat([]byte{255}, 800), make([]byte, 768)
	keys := func(set int, seed []byte) func() error { return func() error { _, _, e := Keys(set, seed); return e } }
	maySeal := func(set int, b []byte) func() error { return func() error { return MaySeal(set, b) } }
	mayOpen := func(set int, b []byte) func() error { return func() error { return MayOpen(set, b) } }
	seal := func(set int, key, m []byte) func() error {
		return func() error { _, _, e := Seal(set, key, m); return e }
	}
	open := func(set int, key, c []byte) func() error { return func() error { _, e := Open(set, key, c); return e } }
	return []failure{
		{"Keys of no set", api.ErrArg, keys(4, nil)}, {"Keys of a size", api.ErrSize, keys(1, nil)},
		{"MaySeal of no set", api.ErrArg, maySeal(0, nil)}, {"MaySeal of a size", api.ErrSize, maySeal(1, nil)}, {"MaySeal of numbers", api.ErrForm, maySeal(1, great)},
		{"MayOpen of no set", api.ErrArg, mayOpen(0, nil)}, {"MayOpen of a size", api.ErrSize, mayOpen(1, nil)}, {"MayOpen of a hash", api.ErrForm, mayOpen(1, make([]byte, p.open))},
		{"Seal of no set", api.ErrArg, seal(-1, nil, nil)}, {"Seal of a key's size", api.ErrSize, seal(1, nil, make([]byte, 32))},
		{"Seal of numbers", api.ErrForm, seal(1, great, make([]byte, 32))}, {"Seal of m's size", api.ErrSize, seal(1, sealing, nil)},
		{"Open of no set", api.ErrArg, open(9, nil, nil)}, {"Open of a key's size", api.ErrSize, open(1, nil, c)}, {"Open of a hash", api.ErrForm, open(1, make([]byte, p.open), c)},
		{"Open of a size", api.ErrSize, open(1, opening, nil)}, {"Open of numbers of pke's part", api.ErrForm, open(1, withNumber(opening, 0, 5, 3329), c)},
		{"Open of numbers of the sealing key", api.ErrForm, open(1, p.hashed(withNumber(opening, p.inner, 5, 3329)), c)},
	}
}

// Each error wraps its Fault, and tells it in words of its own.
func TestErrorsAreWrapped(t *testing.T) {
	for _, x := range failures() {
		e := x.ask()
		var found *api.Fault
		if !errors.As(e, &found) || found.Code != x.want || !errors.Is(e, x.want) || api.Code(e) != x.want {
			t.Errorf("P8.1, P8.2: %s: %v is no Fault of %v", x.name, e, x.want)
			continue
		}
		if inner := errors.Unwrap(e); inner == nil || !errors.Is(inner, found) {
			t.Errorf("P8.1, P8.2: %s: %v does not wrap its Fault", x.name, e)
		}
		if e.Error() == "" || e.Error() == found.Error() {
			t.Errorf("P8.1, P8.2: %s: %v tells no more than its Fault", x.name, e)
		}
		for other := api.OK; other <= api.ErrWait; other++ {
			if other != x.want && errors.Is(e, other) {
				t.Errorf("P8.1, P8.2: %s: %v is told to be %v too", x.name, e, other)
			}
		}
	}
}

// A Fault that is written over stays what other answers have.
func TestErrorsAreNew(t *testing.T) {
	for _, x := range failures() {
		var found *api.Fault
		first, kept := x.ask(), x.ask()
		if errors.As(first, &found) {
			found.Code = api.ErrWait
		}
		if !is(kept, x.want) || !is(x.ask(), x.want) {
			t.Errorf("R4: errors of %s share memory", x.name)
		}
	}
}

// call is one that takes bytes in, with bytes that it takes, and with wrong ones.
type call struct {
	name         string
	right, wrong [][]byte
	ask          func(args [][]byte) ([][]byte, error)
}

// asBytes tells a bool as an answer.
func asBytes(ok bool) [][]byte {
	if ok {
		return [][]byte{{1}}
	}
	return [][]byte{{0}}
}

func calls(t *testing.T) []call {
	var found []call
	for _, p := range rows() {
		seed, m := drawnBytes(p.set, 64), drawnBytes(7, 32)
		seal, open := keysFor(t, p.set, seed)
		c, _ := sealFor(t, p.set, seal, m)
		great, torn := withNumber(seal, 0, 3, 4095), changed(open, p.hashAt())
		opens := func(a [][]byte) ([][]byte, error) {
			secret, e := Open(p.set, a[0], a[1])
			return [][]byte{secret}, e
		}
		found = append(found,
			call{"Keys", [][]byte{seed}, [][]byte{seed[:63]}, func(a [][]byte) ([][]byte, error) {
				seal, open, e := Keys(p.set, a[0])
				return [][]byte{seal, open}, e
			}},
			call{"MaySeal", [][]byte{seal}, [][]byte{great}, func(a [][]byte) ([][]byte, error) { return nil, MaySeal(p.set, a[0]) }},
			call{"MayOpen", [][]byte{open}, [][]byte{torn}, func(a [][]byte) ([][]byte, error) { return nil, MayOpen(p.set, a[0]) }},
			call{"Seal", [][]byte{seal, m}, [][]byte{great, m}, func(a [][]byte) ([][]byte, error) {
				c, secret, e := Seal(p.set, a[0], a[1])
				return [][]byte{c, secret}, e
			}},
			call{"Open", [][]byte{open, c}, [][]byte{torn, c}, opens},
			call{"Open of other bytes", [][]byte{open, changed(c, 9)}, [][]byte{open, c[1:]}, opens},
			call{"Right", [][]byte{open, c, m}, [][]byte{withNumber(open, 0, 3, 4095), c, m}, func(a [][]byte) ([][]byte, error) {
				return asBytes(Right(p.set, a[0], a[1], a[2])), nil
			}})
	}
	return found
}

// roomy are the same bytes with spare room behind them, and all of that room.
func roomy(args [][]byte) (rooms, same [][]byte) {
	for _, b := range args {
		room := slices.Concat(b, slices.Repeat([]byte{77}, 100))
		rooms, same = append(rooms, room), append(same, room[:len(b)])
	}
	return rooms, same
}

func cloneAll(bs [][]byte) [][]byte {
	var found [][]byte
	for _, b := range bs {
		found = append(found, slices.Clone(b))
	}
	return found
}

// sameAll tells whether each is the same bytes, none and empty alike.
func sameAll(as, bs [][]byte) bool { return slices.EqualFunc(as, bs, bytes.Equal) }

func TestWhatIsHandedInStays(t *testing.T) {
	for _, c := range calls(t) {
		for _, given := range [][][]byte{c.right, c.wrong} {
			rooms, args := roomy(given)
			had := cloneAll(rooms)
			told, e := c.ask(args)
			tight, e2 := c.ask(cloneAll(given))
			if api.Code(e) != api.Code(e2) || !sameAll(told, tight) {
				t.Errorf("R5: %s of bytes with spare room is another one: %v, %v", c.name, e, e2)
			}
			for _, b := range told {
				clear(b[:cap(b)])
			}
			if !sameAll(rooms, had) {
				t.Errorf("R4: %s changes what it was given, its spare room, or shares memory with it", c.name)
			}
		}
		if _, e := c.ask(c.right); e != nil {
			t.Errorf("P8.1, P8.2: %s of right bytes: %v", c.name, e)
		}
	}
}

func TestAnswersShareNothing(t *testing.T) {
	for _, c := range calls(t) {
		_, args := roomy(c.right)
		told, _ := c.ask(args)
		again, _ := c.ask(args)
		want := cloneAll(told)
		if !sameAll(again, want) {
			t.Errorf("R5: %s tells another answer the second time", c.name)
		}
		for _, b := range append(again, args...) {
			clear(b[:cap(b)])
		}
		if !sameAll(told, want) {
			t.Errorf("R4: what %s told is changed later", c.name)
		}
		for k, b := range told {
			clear(b[:cap(b)])
			if !sameAll(told[k+1:], want[k+1:]) {
				t.Errorf("R4: the answers of one %s share memory", c.name)
			}
		}
	}
}

// r, from which all that is sealed follows, is not told behind the secret.
func TestSecretHasNothingBehindIt(t *testing.T) {
	for _, p := range rows() {
		seal, open := keysFor(t, p.set, drawnBytes(p.set, 64))
		m := drawnBytes(7, 32)
		c, secret := sealFor(t, p.set, seal, m)
		got, e := Open(p.set, open, c)
		if e != nil {
			t.Fatal(e)
		}
		r := sha512(m, sha256(seal))[32:]
		if bytes.Contains(secret[:cap(secret)], r) || bytes.Contains(got[:cap(got)], r) {
			t.Errorf("P8.2: set %d tells r in the spare room of a secret", p.set)
		}
	}
}

// A call that was refused leaves the next one as it was.
func TestAskedAgainBehindErrors(t *testing.T) {
	for _, c := range calls(t) {
		want, e := c.ask(c.right)
		first, e1 := c.ask(c.wrong)
		second, e2 := c.ask(c.wrong)
		if api.Code(e1) != api.Code(e2) || !sameAll(first, second) {
			t.Errorf("R5: %s refuses otherwise the second time: %v, %v", c.name, e1, e2)
		}
		if told, e3 := c.ask(c.right); !sameAll(told, want) || api.Code(e) != api.Code(e3) {
			t.Errorf("R5: %s tells another answer behind an error", c.name)
		}
	}
}

func TestManyAtOnce(t *testing.T) {
	for _, c := range calls(t) {
		want, _ := c.ask(c.right)
		var all sync.WaitGroup
		for range 8 {
			all.Go(func() {
				for range 5 {
					if told, e := c.ask(c.right); e != nil || !sameAll(told, want) {
						t.Errorf("R5: %s told another answer beside other calls: %v", c.name, e)
					}
				}
			})
		}
		all.Wait()
	}
}

func BenchmarkKeys(b *testing.B) {
	seed := drawnBytes(1, 64)
	for b.Loop() {
		Keys(3, seed)
	}
}

func BenchmarkSeal(b *testing.B) {
	seal, _, _ := Keys(3, drawnBytes(1, 64))
	m := drawnBytes(2, 32)
	for b.Loop() {
		Seal(3, seal, m)
	}
}

func BenchmarkOpen(b *testing.B) {
	seal, open, _ := Keys(3, drawnBytes(1, 64))
	c, _, _ := Seal(3, seal, drawnBytes(2, 32))
	for b.Loop() {
		Open(3, open, c)
	}
}
