package sign

import (
	"bytes"
	"crypto/sha3"
	"errors"
	"math"
	"math/rand"
	"slices"
	"strconv"
	"testing"

	"chatelaine/api"
	"chatelaine/bits"
	"chatelaine/lay"
	"chatelaine/sift"
	"chatelaine/wave"
)

// noSets are none of 1 to 3; some are, if they are cut to 32, 16 or 8 bits, or their sign is.
func noSets() []int {
	return []int{0, 4, 5, 7, 44, 65, 87, -1, -2, -3, -4, 256 + 1, 256 + 3, 1<<16 + 2, 1<<32 + 1, 1<<32 + 2, -1<<32 + 3,
		math.MinInt, math.MinInt + 1, math.MinInt + 2, math.MinInt + 3, math.MaxInt, math.MaxInt - 1}
}

// drawnBytes are the same for the same seed.
func drawnBytes(seed int, many int) []byte {
	b := make([]byte, many)
	rand.New(rand.NewSource(int64(seed))).Read(b)
	return b
}

// drawnAsked has a note of up to 255 bytes, and a message of some.
func drawnAsked(seed int) asked {
	return asked{drawnBytes(seed+1, seed%256), drawnBytes(seed+2, seed*7%300), drawnBytes(seed+3, 32)}
}

// otherSizes are lists of other sizes than one; some have it, if their length is cut to 8 or 16 bits, or their spare room is counted.
func otherSizes(size int) [][]byte {
	found := [][]byte{nil, {}, drawnBytes(1, size)[:0], drawnBytes(1, size)[:size-1], drawnBytes(1, 2*size)[:size+1]}
	for _, n := range []int{1, 31, 32, 33, 48, 64, 128, 1312, 1952, 2420, 2560, 2592, 3309, 4032, 4627, 4896, 2 * size, 256 + size, 1<<16 + size} {
		if n != size {
			found = append(found, drawnBytes(n, n))
		}
	}
	return found
}

// longNotes have more than 255 bytes; some have not, if their length is cut to 8 or 16 bits.
func longNotes() [][]byte {
	var found [][]byte
	for _, n := range []int{256, 257, 300, 301, 511, 512, 1<<16 + 3} {
		found = append(found, drawnBytes(n, n))
	}
	return found
}

// is tells whether an error is, or wraps, a Fault with that Errno; whether there is none, of OK.
func is(e error, want api.Errno) bool {
	if want == api.OK {
		return e == nil
	}
	var f *api.Fault
	return errors.As(e, &f) && f.Code == want && errors.Is(e, want) && api.Code(e) == want
}

// refused tells whether a call answered such an error, and nothing beside it.
func refused(b []byte, e error, want api.Errno) bool { return len(b) == 0 && e != nil && is(e, want) }

// changed is b with one byte changed by a mark.
func changed(b []byte, at int, mark byte) []byte {
	b = bytes.Clone(b)
	b[at] ^= mark
	return b
}

func (p row) keys(seed int) pair {
	verify, signing, e := Keys(p.set, drawnBytes(seed, 32))
	if e != nil {
		panic(e)
	}
	return pair{verify, signing}
}

func (p row) sign(signing []byte, ask asked) ([]byte, error) {
	return Sign(p.set, signing, ask.note, ask.m, ask.random)
}

func (p row) check(verify []byte, ask asked, sig []byte) error {
	return Verify(p.set, verify, ask.note, ask.m, sig)
}

func TestSizes(t *testing.T) {
	if a, b, c := Sizes(3); a != 2592 || b != 4896 || c != 4627 {
		t.Errorf("P13.1: Sizes(3) is %d, %d, %d", a, b, c)
	}
	for _, p := range rows() {
		if a, b, c := Sizes(p.set); a != p.verify || b != p.signing || c != p.sig {
			t.Errorf("P13.1: Sizes(%d) is %d, %d, %d", p.set, a, b, c)
		}
	}
	for _, set := range noSets() {
		if a, b, c := Sizes(set); a != 0 || b != 0 || c != 0 {
			t.Errorf("P13.1: Sizes(%d) is %d, %d, %d", set, a, b, c)
		}
	}
}

// seeds are all 0, all 255, and ordinary ones.
func seeds(many int) [][]byte {
	found := [][]byte{make([]byte, 32), slices.Repeat([]byte{255}, 32)}
	for k := range many {
		found = append(found, drawnBytes(k, 32))
	}
	return found
}

func TestKeysByTheWords(t *testing.T) {
	for _, p := range rows() {
		for k, seed := range seeds(12) {
			verify, signing, e := Keys(p.set, seed)
			want := p.slowKeys(seed)
			if e != nil || !bytes.Equal(verify, want.verify) {
				t.Errorf("P13.1: the verifying key of set %d, seed %d, is another one: %v", p.set, k, e)
			}
			if !bytes.Equal(signing, want.signing) {
				t.Errorf("P13.1: the signing key of set %d, seed %d, is another one", p.set, k)
			}
			if len(verify) != p.verify || len(signing) != p.signing {
				t.Errorf("P13.1: keys of set %d have %d and %d bytes", p.set, len(verify), len(signing))
			}
		}
	}
}

// What each part of both keys is, one by one.
func TestKeysPartByPart(t *testing.T) {
	for _, p := range rows() {
		seed := drawnBytes(50, 32)
		keys, told := p.keys(50), sha3.SumSHAKE256(append(seed, byte(p.k), byte(p.l)), 128)
		k := p.parts(keys.signing)
		if !bytes.Equal(keys.verify[:32], told[:32]) || !bytes.Equal(k.rho, told[:32]) || !bytes.Equal(k.key, told[96:]) {
			t.Errorf("P13.1: rho or K of set %d stands elsewhere", p.set)
		}
		if !bytes.Equal(k.tr, sha3.SumSHAKE256(keys.verify, 64)) {
			t.Errorf("P13.1: tr of set %d is not the verifying key's hash", p.set)
		}
		for n, f := range slices.Concat(k.s1, k.s2) {
			if !slices.Equal(f, must(sift.Small(p.eta, told[32:96], n))) {
				t.Errorf("P13.1: secret poly %d of set %d is not Small's of that number", n, p.set)
			}
		}
		for r, f := range p.slowSums(p.slowMatrix(k.rho), k.s1) {
			t1 := bits.Unpack(10, keys.verify[32+320*r:32+320*(r+1)])
			for i, x := range f {
				if mod(8192*t1[i]+k.t0[r][i]) != mod(x+k.s2[r][i]) {
					t.Fatalf("P13.1: t1 and t0 of set %d at %d, %d are not of t", p.set, r, i)
				}
			}
		}
	}
}

// Each bit of a seed counts, and so does the set.
func TestKeysOfOtherSeeds(t *testing.T) {
	for _, p := range rows() {
		seen, seed := map[string]int{}, drawnBytes(9, 32)
		for at := range 32 {
			verify, signing, e := Keys(p.set, changed(seed, at, 1<<(at%8)))
			if e != nil || seen[string(verify[32:])]+seen[string(signing[32:64])] != 0 {
				t.Errorf("P13.1: keys of set %d are those of another seed: %v", p.set, e)
			}
			seen[string(verify[32:])], seen[string(signing[32:64])] = 1, 1
		}
	}
	if bytes.Equal(rows()[0].keys(1).verify[:32], rows()[1].keys(1).verify[:32]) || bytes.Equal(rows()[1].keys(1).verify[:32], rows()[2].keys(1).verify[:32]) {
		t.Error("P13.1: k and l are none of what rho hangs on")
	}
}

func TestKeysOfOthers(t *testing.T) {
	for _, set := range noSets() {
		for _, seed := range append(otherSizes(32), drawnBytes(1, 32)) {
			if verify, signing, e := Keys(set, seed); len(verify)+len(signing) != 0 || e == nil || !is(e, api.ErrArg) {
				t.Errorf("P13.1: Keys(%d) of %d bytes: %v", set, len(seed), e)
			}
		}
	}
	for _, p := range rows() {
		for _, seed := range otherSizes(32) {
			if verify, signing, e := Keys(p.set, seed); len(verify)+len(signing) != 0 || e == nil || !is(e, api.ErrSize) {
				t.Errorf("P13.1: Keys(%d) of %d bytes: %v", p.set, len(seed), e)
			}
		}
	}
}

func TestDigestByTheWords(t *testing.T) {
	for _, verifySize := range []int{0, 1, 31, 135, 136, 137, 1312, 2592} {
		for _, noteSize := range []int{0, 1, 2, 69, 70, 71, 127, 128, 254, 255} {
			for _, size := range []int{0, 1, 69, 70, 71, 255, 256, 1000, 70000} {
				verify, note, m := drawnBytes(1, verifySize), drawnBytes(2, noteSize), drawnBytes(3, size)
				mu, e := Digest(verify, note, m)
				if e != nil || !bytes.Equal(mu, slowDigest(sha3.SumSHAKE256(verify, 64), note, m)) {
					t.Errorf("P13.1: Digest of %d, %d, %d bytes is %x, %v", verifySize, noteSize, size, mu, e)
				}
			}
		}
	}
	nils, e := Digest(nil, nil, nil)
	if empty, x := Digest([]byte{}, []byte{}, []byte{}); e != nil || x != nil || len(nils) != 64 || !bytes.Equal(nils, empty) {
		t.Errorf("P13.1: Digest of nil is %x, %v, not %x, %v", nils, e, empty, x)
	}
}

func TestDigestOfLongNotes(t *testing.T) {
	for _, note := range longNotes() {
		for _, size := range []int{0, 100} {
			if mu, e := Digest(drawnBytes(1, 13*size), note, drawnBytes(2, size)); !refused(mu, e, api.ErrSize) {
				t.Errorf("P13.1: Digest of a note of %d bytes: %x, %v", len(note), mu, e)
			}
		}
	}
}

// Where one part ends and the next begins tells one digest from another, though all bytes are the same.
func TestDigestOfBytesMovedOver(t *testing.T) {
	for _, text := range [][]byte{{}, make([]byte, 7), slices.Repeat([]byte{1}, 8), drawnBytes(1, 9), {0, 1, 0, 1, 0, 2, 0, 1}} {
		seen := map[string]int{}
		for a := range len(text) + 1 {
			for b := a; b <= len(text); b++ {
				mu, e := Digest(text[:a], text[a:b], text[b:])
				if e != nil || seen[string(mu)] != 0 {
					t.Errorf("P13.1: Digest of %v, cut at %d and %d, is another one's: %v", text, a, b, e)
				}
				seen[string(mu)] = 1
			}
		}
	}
}

func TestSignByTheWords(t *testing.T) {
	for _, p := range rows() {
		most, asks := 0, []asked{{nil, nil, make([]byte, 32)}, {[]byte{}, []byte{}, drawnBytes(7, 32)}, {drawnBytes(1, 255), drawnBytes(2, 5000), drawnBytes(3, 32)}}
		for k := range 12 {
			asks = append(asks, drawnAsked(100+k))
		}
		for k, ask := range asks {
			keys := p.keys(k)
			all := p.slowSigner(keys.signing, ask).turns()
			sig, e := p.sign(keys.signing, ask)
			if e != nil || !bytes.Equal(sig, all[len(all)-1].sig) {
				t.Errorf("P13.2: Sign(%d) of request %d is another signature: %v", p.set, k, e)
			}
			if e := p.check(keys.verify, ask, sig); e != nil || !p.slowVerify(keys.verify, ask, sig) {
				t.Errorf("P13.4: Verify(%d) of request %d: %v", p.set, k, e)
			}
			most = max(most, len(all))
		}
		if most < 5 {
			t.Errorf("P13.2: the signatures tried of set %d took %d turns at most", p.set, most)
		}
	}
}

// All that is handed in counts; Verify takes each of them.
func TestSignOfOtherRequests(t *testing.T) {
	for _, p := range rows() {
		keys, ask := p.keys(3), asked{[]byte("a note"), []byte("a message"), drawnBytes(4, 32)}
		first := must(p.sign(keys.signing, ask))
		if !bytes.Equal(first, must(p.sign(bytes.Clone(keys.signing), asked{[]byte("a note"), []byte("a message"), drawnBytes(4, 32)}))) {
			t.Errorf("P13.2: Sign(%d) of the same random is another signature", p.set)
		}
		seen := map[string]int{string(first): 1}
		for i, other := range []asked{{ask.note, ask.m, drawnBytes(5, 32)}, {ask.note, ask.m, changed(ask.random, 0, 1)}, {ask.note, ask.m, changed(ask.random, 31, 128)}, {ask.note, ask.m, make([]byte, 32)},
			{[]byte("a not"), []byte("ea message"), ask.random}, {[]byte("a notea"), []byte(" message"), ask.random}, {nil, ask.m, ask.random}, {ask.note, nil, ask.random}, {nil, nil, ask.random}} {
			sig, e := p.sign(keys.signing, other)
			if e != nil || seen[string(sig)] != 0 || p.check(keys.verify, other, sig) != nil {
				t.Errorf("P13.2: Sign(%d) of request %d is another one's, or refused: %v", p.set, i, e)
			}
			seen[string(sig)] = 1
		}
	}
}

func filled(x int) []int { return slices.Repeat([]int{mod(x)}, count) }

// either is a poly of two numbers, in no order.
func either(seed int, x int, y int) []int {
	f := make([]int, count)
	for i, b := range drawnBytes(seed, count) {
		f[i] = mod(x)
		if b >= 128 {
			f[i] = mod(y)
		}
	}
	return f
}

// oddKeys are signing keys that no seed makes, but that may be.
func (p row) oddKeys() map[string][]byte {
	whole := p.parts(p.keys(1).signing)
	found := map[string][]byte{}
	put := func(name string, change func(k *parts)) {
		k := whole
		change(&k)
		found[name] = p.signingOf(k)
	}
	allOf := func(f []int) func(k *parts) {
		return func(k *parts) { k.s1, k.s2 = slices.Repeat([][]int{f}, p.l), slices.Repeat([][]int{f}, p.k) }
	}
	lows := func(f []int) func(k *parts) { return func(k *parts) { k.t0 = slices.Repeat([][]int{f}, p.k) } }
	put("another rho", func(k *parts) { k.rho = drawnBytes(1, 32) })
	put("another K", func(k *parts) { k.key = make([]byte, 32) })
	put("another tr", func(k *parts) { k.tr = drawnBytes(1, 64) })
	put("secrets of zeros", allOf(filled(0)))
	put("secrets of eta", allOf(filled(p.eta)))
	put("secrets of -eta", allOf(filled(-p.eta)))
	put("secrets of both", allOf(either(1, p.eta, -p.eta)))
	put("other secrets", func(k *parts) { k.s1, k.s2 = p.parts(p.keys(2).signing).s1, p.parts(p.keys(3).signing).s2 })
	put("t0 of zeros", lows(filled(0)))
	put("t0 of 4096", lows(filled(4096)))
	put("t0 of -4095", lows(filled(-4095)))
	put("t0 of both", lows(either(2, 3000, -3000)))
	put("zeros", func(k *parts) { *k = p.parts(slices.Repeat([]byte{0}, p.signing)) })
	return found
}

func TestSignByOddKeys(t *testing.T) {
	for _, p := range rows() {
		for name, signing := range p.oddKeys() {
			t.Run(strconv.Itoa(p.set)+" "+name, func(t *testing.T) {
				t.Parallel()
				for k := range 2 {
					ask := drawnAsked(30 + k)
					sig, e := p.sign(signing, ask)
					if want := p.slowSign(signing, ask); !bytes.Equal(sig, want) || want != nil && e != nil || want == nil && !is(e, api.ErrOver) {
						t.Errorf("P13.2: Sign(%d) is another signature: %v", p.set, e)
					}
				}
			})
		}
	}
}

// A signature is of the set's bytes, and its parts are such as Verify reads.
func TestSignatureByParts(t *testing.T) {
	for _, p := range rows() {
		for k := range 20 {
			keys, ask := p.keys(k), drawnAsked(k)
			sig := must(p.sign(keys.signing, ask))
			if len(sig) != p.sig {
				t.Fatalf("P13.2: a signature of set %d has %d bytes", p.set, len(sig))
			}
			if _, e := lay.Unhint(p.set, sig[p.hintsAt():]); e != nil {
				t.Errorf("P13.2: hints of set %d: %v", p.set, e)
			}
			if far := wave.Norm(cutPolys(p.g1, p.maskBits, p.l, sig[p.c:])...); far >= p.g1-p.beta {
				t.Errorf("P13.2: the numbers of set %d go as far as %d", p.set, far)
			}
		}
	}
}

func TestSignOfOthers(t *testing.T) {
	for _, set := range noSets() {
		for _, size := range []int{0, 1, 2560, 4032, 4896} {
			for _, ask := range []asked{{nil, nil, nil}, {drawnBytes(1, 256), nil, drawnBytes(1, 31)}, drawnAsked(1)} {
				if sig, e := Sign(set, drawnBytes(1, size), ask.note, ask.m, ask.random); !refused(sig, e, api.ErrArg) {
					t.Errorf("P13.2: Sign(%d): %v", set, e)
				}
			}
		}
	}
	for _, p := range rows() {
		keys, ask := p.keys(1), drawnAsked(1)
		for _, signing := range append(otherSizes(p.signing), keys.signing[1:], append(keys.signing, 0), keys.verify) {
			if sig, e := p.sign(signing, ask); !refused(sig, e, api.ErrSize) {
				t.Errorf("P13.2: Sign(%d) with a key of %d bytes: %v", p.set, len(signing), e)
			}
		}
		for _, random := range otherSizes(32) {
			if sig, e := p.sign(keys.signing, asked{ask.note, ask.m, random}); !refused(sig, e, api.ErrSize) {
				t.Errorf("P13.2: Sign(%d) by chance of %d bytes: %v", p.set, len(random), e)
			}
		}
		for _, note := range longNotes() {
			if sig, e := p.sign(keys.signing, asked{note, ask.m, ask.random}); !refused(sig, e, api.ErrSize) {
				t.Errorf("P13.2: Sign(%d) with a note of %d bytes: %v", p.set, len(note), e)
			}
		}
	}
}

// withSmall is a signing key with number i of secret poly r (s2 goes on behind s1) told by these bits.
func (p row) withSmall(signing []byte, r int, i int, told int) []byte {
	size := 32 * p.smallBits
	from := 128 + size*r
	numbers := bits.Unpack(p.smallBits, signing[from:from+size])
	numbers[i] = told
	return slices.Concat(signing[:from], bits.Pack(p.smallBits, numbers...), signing[from+size:])
}

// Each bits that tell a number beyond eta are refused, at whatever place, and no others are.
func TestSecretsBeyondEta(t *testing.T) {
	for _, p := range rows() {
		signing, ask := p.keys(1).signing, drawnAsked(1)
		for r := range p.l + p.k {
			for _, i := range []int{0, 1, 128, 254, 255} {
				for told := 2*p.eta + 1; told < 1<<p.smallBits; told++ {
					odd := p.withSmall(signing, r, i, told)
					if sig, e := p.sign(odd, ask); !refused(sig, e, api.ErrForm) {
						t.Errorf("P13.2: Sign(%d), poly %d, number %d of %d: %v", p.set, r, i, told, e)
					}
					if verify, e := Public(p.set, odd); !refused(verify, e, api.ErrForm) {
						t.Errorf("P13.3: Public(%d), poly %d, number %d of %d: %v", p.set, r, i, told, e)
					}
				}
			}
			for told := range 2*p.eta + 1 {
				odd := p.withSmall(signing, r, 17*r, told)
				if _, e := Public(p.set, odd); e != nil {
					t.Errorf("P13.3: Public(%d), poly %d, %d: %v", p.set, r, told, e)
				}
			}
			if _, e := p.sign(p.withSmall(signing, r, 17*r, 2*p.eta), ask); e != nil {
				t.Errorf("P13.2: Sign(%d), poly %d of -eta: %v", p.set, r, e)
			}
		}
	}
}

// places are those at which a byte of so many is changed: all of the first set's; of the others each seventh, and both ends.
func (p row) places(from int, to int) []int {
	found := []int{from, to - 1}
	for at := from; at < to; at++ {
		if p.set == 1 || at%7 == 0 {
			found = append(found, at)
		}
	}
	return found
}

func TestVerifyOfChangedBytes(t *testing.T) {
	for _, p := range rows() {
		keys, ask := p.keys(6), asked{drawnBytes(1, 20), drawnBytes(2, 30), drawnBytes(3, 32)}
		sig := must(p.sign(keys.signing, ask))
		t.Run("key "+strconv.Itoa(p.set), func(t *testing.T) {
			t.Parallel()
			for _, at := range p.places(0, p.verify) {
				if e := p.check(changed(keys.verify, at, 1<<(at%8)), ask, sig); !is(e, api.ErrSign) {
					t.Errorf("P13.3: Verify(%d), byte %d of the key: %v", p.set, at, e)
				}
			}
		})
		t.Run("note and message "+strconv.Itoa(p.set), func(t *testing.T) {
			t.Parallel()
			for at := range ask.note {
				if e := p.check(keys.verify, asked{note: changed(ask.note, at, 1<<(at%8)), m: ask.m}, sig); !is(e, api.ErrSign) {
					t.Errorf("P13.3: Verify(%d), byte %d of the note: %v", p.set, at, e)
				}
			}
			for at := range ask.m {
				if e := p.check(keys.verify, asked{note: ask.note, m: changed(ask.m, at, 1<<(at%8))}, sig); !is(e, api.ErrSign) {
					t.Errorf("P13.3: Verify(%d), byte %d of the message: %v", p.set, at, e)
				}
			}
		})
		t.Run("challenge and numbers "+strconv.Itoa(p.set), func(t *testing.T) {
			t.Parallel()
			for at := range p.c {
				if e := p.check(keys.verify, ask, changed(sig, at, 1<<(at%8))); !is(e, api.ErrSign) {
					t.Errorf("P13.3: Verify(%d), byte %d of the challenge: %v", p.set, at, e)
				}
			}
			for _, at := range p.places(p.c, p.hintsAt()) {
				if e := p.check(keys.verify, ask, changed(sig, at, 1<<(at%8))); !is(e, api.ErrSign) {
					t.Errorf("P13.3: Verify(%d), byte %d of the numbers: %v", p.set, at, e)
				}
			}
		})
		t.Run("hints "+strconv.Itoa(p.set), func(t *testing.T) {
			t.Parallel()
			p.checkHints(t, keys, ask, sig)
		})
	}
}

// checkHints changes each byte of the hints: some of them Unhint refuses, of others there are other hints.
func (p row) checkHints(t *testing.T, keys pair, ask asked, sig []byte) {
	forms, others := 0, 0
	for at := p.hintsAt(); at < p.sig; at++ {
		for _, mark := range []byte{1, 2, 4, 128, 255} {
			odd, want := changed(sig, at, mark), api.ErrSign
			if _, e := lay.Unhint(p.set, odd[p.hintsAt():]); e != nil {
				want = api.ErrForm
				forms++
			} else {
				others++
			}
			if e := p.check(keys.verify, ask, odd); !is(e, want) {
				t.Errorf("P13.3: Verify(%d), byte %d by %d: %v, not %v", p.set, at, mark, e, want)
			}
		}
	}
	if forms < 20 || others < 20 {
		t.Errorf("P13.3: the hints tried of set %d are %d that are none, %d others", p.set, forms, others)
	}
}

// What was signed is of this key, this note and this message alone.
func TestVerifyOfOtherRequests(t *testing.T) {
	for _, p := range rows() {
		keys, ask := p.keys(6), asked{[]byte("a note"), []byte("a message"), drawnBytes(3, 32)}
		sig := must(p.sign(keys.signing, ask))
		if e := p.check(keys.verify, ask, sig); e != nil {
			t.Errorf("P13.4: Verify(%d): %v", p.set, e)
		}
		for i, x := range []struct {
			verify, note, m, sig []byte
		}{
			{p.keys(7).verify, ask.note, ask.m, sig}, {drawnBytes(1, p.verify), ask.note, ask.m, sig}, {make([]byte, p.verify), ask.note, ask.m, sig},
			{keys.verify, nil, ask.m, sig}, {keys.verify, ask.note, nil, sig}, {keys.verify, nil, []byte("a notea message"), sig}, {keys.verify, []byte("a not"), []byte("ea message"), sig},
			{keys.verify, []byte("a notea"), []byte(" message"), sig}, {keys.verify, ask.note, []byte("a messag"), sig}, {keys.verify, ask.note, []byte("a message\x00"), sig}, {keys.verify, []byte("a note\x00"), ask.m, sig},
			{keys.verify, ask.m, ask.note, sig}, {keys.verify, ask.note, ask.m, make([]byte, p.sig)}, {keys.verify, ask.note, ask.m, must(p.sign(p.keys(7).signing, ask))},
			{keys.verify, ask.note, ask.m, must(p.sign(keys.signing, drawnAsked(1)))},
		} {
			if e := Verify(p.set, x.verify, x.note, x.m, x.sig); !is(e, api.ErrSign) {
				t.Errorf("P13.3: Verify(%d) of request %d: %v", p.set, i, e)
			}
		}
	}
}

func TestVerifyOfOthers(t *testing.T) {
	for _, set := range noSets() {
		for _, size := range []int{0, 1, 1312, 2420, 4627} {
			if e := Verify(set, drawnBytes(1, size), drawnBytes(1, 256), nil, drawnBytes(1, size)); !is(e, api.ErrArg) {
				t.Errorf("P13.3: Verify(%d): %v", set, e)
			}
		}
		if e := Verify(set, nil, nil, nil, nil); !is(e, api.ErrArg) {
			t.Errorf("P13.3: Verify(%d) of nil: %v", set, e)
		}
	}
	for _, p := range rows() {
		keys, ask := p.keys(1), drawnAsked(1)
		sig := must(p.sign(keys.signing, ask))
		for _, verify := range append(otherSizes(p.verify), keys.verify[1:], append(keys.verify, 0), keys.signing) {
			if e := p.check(verify, ask, sig); !is(e, api.ErrSize) {
				t.Errorf("P13.3: Verify(%d) with a key of %d bytes: %v", p.set, len(verify), e)
			}
		}
		for _, odd := range append(otherSizes(p.sig), sig[1:], append(sig, 0)) {
			if e := p.check(keys.verify, ask, odd); !is(e, api.ErrSize) {
				t.Errorf("P13.3: Verify(%d) of %d bytes: %v", p.set, len(odd), e)
			}
		}
		for _, note := range longNotes() {
			if e := p.check(keys.verify, asked{note: note, m: ask.m}, sig); !is(e, api.ErrSize) {
				t.Errorf("P13.3: Verify(%d) with a note of %d bytes: %v", p.set, len(note), e)
			}
		}
	}
}

// badHints is a signature whose hints Unhint refuses.
func (p row) badHints(sig []byte) []byte { return changed(sig, p.sig-1, 128) }

// Of several errors the one is answered that the chapter names first.
func TestFirstErrors(t *testing.T) {
	for _, p := range rows() {
		keys, ask, long := p.keys(1), drawnAsked(1), drawnBytes(1, 256)
		sig, beyond := must(p.sign(keys.signing, ask)), p.withSmall(keys.signing, 0, 0, 2*p.eta+1)
		great := slices.Concat(sig[:p.c], make([]byte, p.hintsAt()-p.c), sig[p.hintsAt():])
		for i, x := range []struct {
			e    error
			want api.Errno
		}{
			{second(p.sign(beyond, asked{long, ask.m, ask.random})), api.ErrSize}, {second(p.sign(beyond, asked{ask.note, ask.m, ask.random[1:]})), api.ErrSize}, {second(p.sign(beyond[1:], ask)), api.ErrSize},
			{second(p.sign(beyond, ask)), api.ErrForm}, {second(Sign(0, beyond, long, nil, nil)), api.ErrArg},
			{second(Public(p.set, beyond[:p.signing-1])), api.ErrSize}, {second(Public(p.set, beyond)), api.ErrForm}, {second(Public(4, beyond)), api.ErrArg},
			{p.check(keys.verify, ask, great), api.ErrSign}, {p.check(keys.verify, ask, p.badHints(great)), api.ErrForm}, {p.check(p.keys(2).verify, ask, p.badHints(sig)), api.ErrForm},
			{p.check(keys.verify[1:], ask, p.badHints(sig)), api.ErrSize}, {p.check(keys.verify, asked{note: long}, p.badHints(sig)), api.ErrSize}, {p.check(keys.verify, ask, p.badHints(sig)[1:]), api.ErrSize},
			{p.check(keys.verify, asked{note: long}, great), api.ErrSize}, {Verify(4, keys.verify, long, nil, p.badHints(great)), api.ErrArg},
		} {
			if !is(x.e, x.want) {
				t.Errorf("R6: call %d of set %d answers %v, not %v", i, p.set, x.e, x.want)
			}
		}
	}
}

func second(_ []byte, e error) error { return e }

func TestPublicIsTheVerifyingKey(t *testing.T) {
	for _, p := range rows() {
		for k := range 10 {
			keys := p.keys(k)
			if verify, e := Public(p.set, keys.signing); e != nil || !bytes.Equal(verify, keys.verify) {
				t.Errorf("P13.3: Public(%d) of key %d is another one: %v", p.set, k, e)
			}
		}
		for name, signing := range p.oddKeys() {
			want, _ := p.slowPublic(p.parts(signing))
			if verify, e := Public(p.set, signing); e != nil || !bytes.Equal(verify, want) {
				t.Errorf("P13.3: Public(%d) of %s is another one: %v", p.set, name, e)
			}
		}
	}
}

// K, tr and t0 are none of what Public hangs on.
func TestPublicOfOtherParts(t *testing.T) {
	for _, p := range rows() {
		keys, t0 := p.keys(4), p.signing-416*p.k
		for _, at := range []int{32, 63, 64, 127, t0, p.signing - 1} {
			if verify, e := Public(p.set, changed(keys.signing, at, 1)); e != nil || !bytes.Equal(verify, keys.verify) {
				t.Errorf("P13.3: Public(%d) with byte %d changed: %v", p.set, at, e)
			}
		}
		if verify, e := Public(p.set, changed(keys.signing, 0, 1)); e != nil || bytes.Equal(verify[32:], keys.verify[32:]) {
			t.Errorf("P13.3: Public(%d) of another rho: %v", p.set, e)
		}
	}
}

func TestPublicOfOthers(t *testing.T) {
	for _, set := range noSets() {
		for _, size := range []int{0, 1, 2560, 4896} {
			if verify, e := Public(set, drawnBytes(1, size)); !refused(verify, e, api.ErrArg) {
				t.Errorf("P13.3: Public(%d): %v", set, e)
			}
		}
	}
	for _, p := range rows() {
		for _, signing := range append(otherSizes(p.signing), p.keys(1).signing[1:]) {
			if verify, e := Public(p.set, signing); !refused(verify, e, api.ErrSize) {
				t.Errorf("P13.3: Public(%d) of %d bytes: %v", p.set, len(signing), e)
			}
		}
	}
}

func TestSignedVerifies(t *testing.T) {
	for _, p := range rows() {
		for k := range 60 {
			keys, ask := p.keys(1000+k), drawnAsked(5*k)
			sig, e := p.sign(keys.signing, ask)
			if e != nil || p.check(keys.verify, ask, sig) != nil {
				t.Errorf("P13.4: key %d of set %d: %v, %v", k, p.set, e, p.check(keys.verify, ask, sig))
			}
		}
	}
}

// Bytes that nobody made are refused, or read: nothing panics.
func TestBytesOfNobody(t *testing.T) {
	for _, p := range rows() {
		sig := must(p.sign(p.keys(1).signing, drawnAsked(1)))
		for k := range 40 {
			ask, odd := drawnAsked(k), drawnBytes(k, p.sig)
			if e := p.check(drawnBytes(k+1, p.verify), ask, odd); !is(e, api.ErrForm) {
				t.Errorf("R1: Verify(%d) of bytes of nobody: %v", p.set, e)
			}
			copy(odd[p.hintsAt():], sig[p.hintsAt():])
			if e := p.check(drawnBytes(k+1, p.verify), ask, odd); !is(e, api.ErrSign) {
				t.Errorf("R1: Verify(%d) of bytes of nobody: %v", p.set, e)
			}
			if b, e := p.sign(drawnBytes(k, p.signing), ask); !refused(b, e, api.ErrForm) {
				t.Errorf("R1: Sign(%d) with bytes of nobody: %v", p.set, e)
			}
		}
	}
}

func BenchmarkSign(b *testing.B) {
	for _, p := range rows() {
		keys := p.keys(1)
		sig := must(p.sign(keys.signing, drawnAsked(1)))
		b.Run("Keys "+strconv.Itoa(p.set), func(b *testing.B) {
			for b.Loop() {
				p.keys(1)
			}
		})
		b.Run("Sign "+strconv.Itoa(p.set), func(b *testing.B) {
			for k := 0; b.Loop(); k++ {
				must(p.sign(keys.signing, asked{nil, nil, drawnBytes(k, 32)}))
			}
		})
		b.Run("Verify "+strconv.Itoa(p.set), func(b *testing.B) {
			for b.Loop() {
				p.check(keys.verify, drawnAsked(1), sig)
			}
		})
	}
}
