package ask

import (
	"bytes"
	"encoding/binary"
	"math"
	"math/rand/v2"
	"slices"
	"testing"

	"chatelaine/api"
)

// alike tells whether requests are the same, be they ones that may be or not.
func alike(a, b api.Ask) bool { return bytes.Equal(slowBody(a), slowBody(b)) }

// slowRead goes by the chapter's words: of bytes that are a request's body there is one way to cut them.
func slowRead(b []byte) (api.Ask, api.Errno) {
	if len(b) < sigSize || len(b) > 6000 {
		return api.Ask{}, api.ErrSize
	}
	var a api.Ask
	body := b[:len(b)-sigSize]
	left := body
	number := func() int {
		if len(left) < 8 {
			return math.MaxInt
		}
		n := int(binary.BigEndian.Uint64(left))
		left = left[8:]
		return n
	}
	for _, x := range fields() {
		*x.of(&a) = number()
	}
	for _, x := range parts() {
		n := number()
		if n < 0 || n > len(left) {
			return api.Ask{}, api.ErrForm
		}
		a, left = x.put(a, left[:n]), left[n:]
	}
	if !slowMay(a) || !bytes.Equal(slowBody(a), body) {
		return api.Ask{}, api.ErrForm
	}
	return a, api.OK
}

// checkRead holds Read against what is to be told of b.
func checkRead(t *testing.T, name string, b []byte, want api.Errno) {
	t.Helper()
	a, body, sig, e := Read(b)
	if !is(e, want) {
		t.Errorf("P15.1: Read of %s: %v, not %v", name, e, want)
		return
	}
	if want != api.OK {
		if !alike(a, api.Ask{}) || len(body)+len(sig) != 0 {
			t.Errorf("R2: Read of %s tells something beside an error", name)
		}
		return
	}
	end := len(b) - sigSize
	if !bytes.Equal(slowBody(a), b[:end]) || !bytes.Equal(body, b[:end]) || !bytes.Equal(sig, b[end:]) {
		t.Errorf("P15.1: Read of %s: another request, body or signature; %d and %d bytes", name, len(body), len(sig))
	}
}

// sealed is a body with bytes behind it that have the size of a signature.
func sealed(body []byte) []byte { return slices.Concat(body, mixed(sigSize, 7)) }

// ofSize is a request that may be, with a body of so many bytes.
func ofSize(n int) api.Ask {
	left := n - 14*8
	name := min(left, 300)
	many := min(left-name, 2000)
	return with(good(), func(a *api.Ask) {
		a.Name, a.Bytes, a.Token = string(mixed(name, 1)), mixed(many, 2), mixed(left-name-many, 3)
	})
}

func TestReadOfWrongSizes(t *testing.T) {
	for _, n := range []int{0, 1, 8, 111, 112, 2000, 2418, 2419, 6001, 6002, 8420, 65536, 1 << 24} {
		checkRead(t, "zeros", make([]byte, n), api.ErrSize)
		checkRead(t, "other bytes", mixed(n, 1), api.ErrSize)
	}
	checkRead(t, "nil", nil, api.ErrSize)
	whole := sealed(slowBody(greatest()))
	for _, n := range []int{6001, 6002, 7000} {
		checkRead(t, "a request and more behind it", append(bytes.Clone(whole), make([]byte, n-len(whole))...), api.ErrSize)
		checkRead(t, "a request and more ahead of it", append(make([]byte, n-len(whole)), whole...), api.ErrSize)
	}
	for _, n := range []int{112, 2400, 2419} {
		checkRead(t, "a body alone, shorter than a signature", slowBody(ofSize(n)), api.ErrSize)
	}
	checkRead(t, "a short signature alone", signedBy(keysOf(1), least(), mixed(32, 1))[113:], api.ErrSize)
}

func TestReadOfNoBody(t *testing.T) {
	for _, n := range []int{2420, 2421, 2427, 2428, 2531, 2532, 2533, 4931, 4932, 4933, 5999, 6000} {
		checkRead(t, "zeros", make([]byte, n), api.ErrForm)
		checkRead(t, "highest bytes", slices.Repeat([]byte{255}, n), api.ErrForm)
		checkRead(t, "other bytes", mixed(n, 1), api.ErrForm)
	}
	for _, n := range []int{2420, 2421, 2511, 2512} {
		checkRead(t, "a body alone, longer than a signature", slowBody(ofSize(n)), api.ErrForm)
	}
	checkRead(t, "a signature alone", signedBy(keysOf(1), least(), mixed(32, 1))[112:], api.ErrForm)
	checkRead(t, "the signature ahead", slices.Concat(mixed(sigSize, 7), slowBody(good())), api.ErrForm)
	checkRead(t, "zeros for a request", sealed(slowBody(api.Ask{})), api.ErrForm)
}

func TestReadOfBodiesThatAreNotWhole(t *testing.T) {
	for _, a := range []api.Ask{good(), least(), greatest()} {
		body := slowBody(a)
		checkRead(t, "a request", sealed(body), api.OK)
		for cut := range body {
			checkRead(t, "a body with bytes fewer", sealed(body[:cut]), api.ErrForm)
		}
		for _, more := range [][]byte{{0}, {255}, make([]byte, 8), mixed(8, 1), body[:min(len(body), 1000)]} {
			checkRead(t, "a body with bytes more", sealed(slices.Concat(body, more)), api.ErrForm)
			checkRead(t, "a body with bytes ahead", sealed(slices.Concat(more, body)), api.ErrForm)
		}
		checkRead(t, "a body without its first byte", sealed(body[1:]), api.ErrForm)
		checkRead(t, "a body without its first number", sealed(body[8:]), api.ErrForm)
	}
}

// A byte more or fewer at the end of all moves where the signature begins.
func TestReadOfShiftedSignatures(t *testing.T) {
	whole := signedBy(keysOf(1), good(), mixed(32, 1))
	checkRead(t, "what was signed", whole, api.OK)
	checkRead(t, "with a byte fewer", whole[:len(whole)-1], api.ErrForm)
	checkRead(t, "with a byte more", append(bytes.Clone(whole), 0), api.ErrForm)
	checkRead(t, "without its first byte", whole[1:], api.ErrForm)
	checkRead(t, "with a byte ahead", slices.Concat([]byte{0}, whole), api.ErrForm)
}

// Whose signature stands there, and whether it is right, Read does not ask.
func TestReadOfAnySignature(t *testing.T) {
	for _, sig := range [][]byte{make([]byte, sigSize), slices.Repeat([]byte{255}, sigSize), mixed(sigSize, 1)} {
		checkRead(t, "any signature", slices.Concat(slowBody(good()), sig), api.OK)
	}
}

func TestReadOfNumbersAtTheirBounds(t *testing.T) {
	for _, base := range []api.Ask{good(), least(), greatest()} {
		for _, x := range fields() {
			for _, n := range x.numbersAbout() {
				want := api.OK
				if n < x.lo || n > x.hi {
					want = api.ErrForm
				}
				checkRead(t, "a request by its "+x.name, sealed(slowBody(x.put(base, n))), want)
			}
		}
	}
}

// The highest bit of a number is its sign: with it, none may be.
func TestReadOfHighestBits(t *testing.T) {
	for _, base := range []api.Ask{good(), least(), greatest()} {
		laid := slowBody(base)
		at := []int{0, 8, 16, 24, 32, 40, 48, 56, 64, 72, 80, 88, 96 + len(base.Name), 104 + len(base.Name) + len(base.Bytes)}
		for _, i := range at {
			odd := bytes.Clone(laid)
			odd[i] |= 128
			checkRead(t, "a request with a highest bit", sealed(odd), api.ErrForm)
			copy(odd[i:], slices.Repeat([]byte{255}, 8))
			checkRead(t, "a request with -1", sealed(odd), api.ErrForm)
		}
	}
}

// lengthAt is where the length of part i stands in a's body.
func lengthAt(a api.Ask, i int) int {
	at := 11 * 8
	for _, x := range parts()[:i] {
		at += 8 + len(x.of(a))
	}
	return at
}

func TestReadOfPartsAtTheirBounds(t *testing.T) {
	for _, base := range []api.Ask{good(), least(), greatest()} {
		for _, x := range parts() {
			for _, n := range []int{0, 1, x.most - 1, x.most} {
				checkRead(t, "a request by its "+x.name, sealed(slowBody(x.put(base, mixed(n, 4)))), api.OK)
			}
			for _, n := range []int{x.most + 1, x.most + 2, x.most + 256} {
				laid := sealed(slowBody(x.put(base, mixed(n, 4))))
				checkRead(t, "a request whose part is too long, "+x.name, laid, api.ErrForm)
			}
		}
	}
}

func TestReadOfOtherLengths(t *testing.T) {
	for _, base := range []api.Ask{good(), least(), greatest()} {
		for i, x := range parts() {
			own, at := len(x.of(base)), lengthAt(base, i)
			for _, n := range []int{own - 1, own + 1, own + 8, own + 256, -1, -own, -8, math.MinInt, math.MinInt + own, x.most + 1, 2001, 6000, 1 << 20, 1 << 31, 1 << 32, 1<<32 + own, 1<<56 + own, math.MaxInt - 7, math.MaxInt} {
				if n == own {
					continue
				}
				odd := slowBody(base)
				binary.BigEndian.PutUint64(odd[at:], uint64(n))
				checkRead(t, "a request with another length of "+x.name, sealed(odd), api.ErrForm)
			}
		}
	}
}

func TestSignedIsReadAgain(t *testing.T) {
	for i, a := range unlike() {
		keys, random := keysOf(i%7), mixed(32, i)
		b, e := Signed(a, keys.signing, random)
		if e != nil {
			t.Fatalf("P15.1: Signed of request %d: %v", i, e)
		}
		checkRead(t, "what was signed", b, api.OK)
		got, body, sig, e := Read(b)
		if e != nil || !Same(got, a) || !bytes.Equal(slices.Concat(body, sig), signedBy(keys, a, random)) {
			t.Errorf("P15.1: request %d, signed and read again: %v", i, e)
		}
		if again, e := Signed(got, keys.signing, random); e != nil || !bytes.Equal(again, b) {
			t.Errorf("P15.1: request %d, read and signed again, is another one: %v", i, e)
		}
	}
}

func drawnRequest(from *rand.Rand) api.Ask {
	a := api.Ask{}
	for _, x := range fields() {
		a = x.put(a, x.lo+[]int{0, from.IntN(5), from.IntN(300), from.IntN(x.hi - x.lo + 1), x.hi - x.lo}[from.IntN(5)]%(x.hi-x.lo+1))
	}
	for _, x := range parts() {
		a = x.put(a, mixed([]int{0, from.IntN(20), from.IntN(x.most + 1), x.most}[from.IntN(4)], from.IntN(99)))
	}
	return a
}

// spoilt is a body, as it was, cut, longer, or with a bit or a length changed.
func spoilt(a api.Ask, from *rand.Rand) []byte {
	b := slowBody(a)
	switch from.IntN(6) {
	case 0:
		return b[:from.IntN(len(b))]
	case 1:
		at := from.IntN(len(b) + 1)
		return slices.Insert(b, at, mixed(1+from.IntN(9), at)...)
	case 2:
		b[from.IntN(len(b))] ^= 1 << from.IntN(8)
	case 3:
		b[from.IntN(88)] ^= 1 << from.IntN(8)
	case 4:
		b[lengthAt(a, from.IntN(3))+from.IntN(8)] ^= 1 << from.IntN(8)
	}
	return b
}

func TestReadGoesByTheChapter(t *testing.T) {
	seen := map[api.Errno]int{}
	for k := range 20000 {
		from := rand.New(rand.NewPCG(15, uint64(k)))
		b := sealed(spoilt(drawnRequest(from), from))
		want, code := slowRead(b)
		checkRead(t, "a drawn request", b, code)
		if got, _, _, _ := Read(b); !alike(got, want) {
			t.Fatalf("P15.1: Read of drawn request %d is another one", k)
		}
		seen[code]++
	}
	if seen[api.OK] < 3000 || seen[api.ErrForm] < 3000 {
		t.Errorf("the drawn requests are told so: %v", seen)
	}
}
