package sponge

import (
	"bytes"
	"crypto/sha3"
	"encoding/hex"
	"errors"
	"math"
	"slices"
	"strconv"
	"testing"

	"chatelaine/api"
	"chatelaine/keccak"
)

// slow is what the chapter's words say comes out, byte by byte, all of what went in laid out first.
func slow(rate int, suffix byte, in []byte, n int) []byte {
	all := append(bytes.Clone(in), suffix)
	for len(all)%rate != 0 {
		all = append(all, 0)
	}
	all[len(all)-1] ^= 128
	var state [25]uint64
	for ; len(all) > 0; all = all[rate:] {
		for i := range rate {
			state[i/8] ^= uint64(all[i]) << (8 * (i % 8))
		}
		state = keccak.Permute(state)
	}
	var out []byte
	for len(out) < n {
		for i := range rate {
			out = append(out, byte(state[i/8]>>(8*(i%8))))
		}
		state = keccak.Permute(state)
	}
	return out[:n]
}

// mixed are n bytes, other ones for each k.
func mixed(n, k int) []byte {
	x := uint64(k)*0x9E3779B97F4A7C15 + 0xD1B54A32D192ED03
	b := make([]byte, n)
	for i := range b {
		x ^= x << 13
		x ^= x >> 7
		x ^= x << 17
		b[i] = byte(x >> 32)
	}
	return b
}

// is tells whether an error is a Fault with that Errno.
func is(e error, want api.Errno) bool {
	var f *api.Fault
	return errors.As(e, &f) && f.Code == want && errors.Is(e, want)
}

// taken is a Sponge into which in went.
func taken(t *testing.T, rate int, suffix byte, in ...[]byte) *Sponge {
	t.Helper()
	s := New(rate, suffix)
	if s == nil {
		t.Fatalf("P2.1: New(%d, %d) is nil", rate, suffix)
	}
	if e := s.Write(in...); e != nil {
		t.Fatalf("P2.1: Write: %v", e)
	}
	return s
}

// cut lays b into parts of so many bytes each, these in turn, with an empty one ahead of each.
func cut(b []byte, sizes ...int) [][]byte {
	parts := [][]byte{{}}
	for i := 0; len(b) > 0; i++ {
		n := min(sizes[i%len(sizes)], len(b))
		parts = append(parts, nil, b[:n], []byte{})
		b = b[n:]
	}
	return parts
}

// edges are lengths just below, at and just above the first multiples of rate.
func edges(rate int) []int {
	lengths := []int{0, 1, 7, 8, 9}
	for k := 1; k <= 3; k++ {
		lengths = append(lengths, k*rate-9, k*rate-8, k*rate-2, k*rate-1, k*rate, k*rate+1, k*rate+8)
	}
	return slices.DeleteFunc(lengths, func(n int) bool { return n < 0 })
}

var suffixes = []byte{1, 2, 6, 31, 64, 126, 127}

func TestNewOfEachRate(t *testing.T) {
	rates := []int{math.MinInt, math.MinInt + 8, -1 << 32, 1 << 32, 1<<32 + 136, math.MaxInt - 7, math.MaxInt}
	for rate := -300; rate <= 600; rate++ {
		rates = append(rates, rate)
	}
	for _, rate := range rates {
		want := rate >= 8 && rate <= 192 && rate%8 == 0
		if got := New(rate, 31) != nil; got != want {
			t.Errorf("P2.1: New(%d, 31) is one: %t, not %t", rate, got, want)
		}
	}
}

func TestNewOfEachSuffix(t *testing.T) {
	for suffix := range 256 {
		for _, rate := range []int{8, 136, 192} {
			want := suffix >= 1 && suffix <= 127
			if got := New(rate, byte(suffix)) != nil; got != want {
				t.Errorf("P2.1: New(%d, %d) is one: %t, not %t", rate, suffix, got, want)
			}
		}
		if New(200, byte(suffix)) != nil || New(0, byte(suffix)) != nil {
			t.Errorf("P2.1: New of no rate, suffix %d, is one", suffix)
		}
	}
}

func TestNewIsOneIntoWhichNothingWent(t *testing.T) {
	for rate := 8; rate <= 192; rate += 8 {
		taken(t, rate, 31, mixed(500, rate)).Read(500)
		if got := New(rate, 31).Read(300); !bytes.Equal(got, slow(rate, 31, nil, 300)) {
			t.Errorf("P2.1: Read of New(%d, 31) is %x", rate, got)
		}
	}
}

func TestEachRateSuffixAndLength(t *testing.T) {
	for rate := 8; rate <= 192; rate += 8 {
		for _, suffix := range suffixes {
			for _, n := range edges(rate) {
				in := mixed(n, rate+n)
				want := slow(rate, suffix, in, 2*rate+5)
				if got := taken(t, rate, suffix, in).Read(2*rate + 5); !bytes.Equal(got, want) {
					t.Fatalf("P2.1: New(%d, %d), %d bytes in: %x, not %x", rate, suffix, n, got, want)
				}
			}
		}
	}
}

func TestEachByteInAndOut(t *testing.T) {
	for n := range 400 {
		in := mixed(n, n)
		for _, rate := range []int{8, 72, 136, 168, 192} {
			want := slow(rate, 5, in, n+1)
			if got := taken(t, rate, 5, in).Read(n + 1); !bytes.Equal(got, want) {
				t.Fatalf("P2.1: New(%d, 5), %d bytes in, %d out: %x, not %x", rate, n, n+1, got, want)
			}
		}
	}
}

var partings = [][]int{{1}, {2, 3}, {7}, {8}, {9}, {1, 8}, {3, 16, 5}, {135, 1}, {136}, {137}, {168, 0, 1}, {191}, {192}, {193}, {500}}

func TestPartsOfWhatGoesIn(t *testing.T) {
	for _, rate := range []int{8, 72, 136, 168, 192} {
		in := mixed(3*rate+17, rate)
		want := slow(rate, 31, in, 100)
		for _, sizes := range partings {
			at := New(rate, 31)
			for _, part := range cut(in, sizes...) {
				if e := at.Write(part); e != nil {
					t.Fatalf("P2.1: Write: %v", e)
				}
				if e := at.Write(); e != nil {
					t.Fatalf("P2.1: Write of no part: %v", e)
				}
			}
			once := taken(t, rate, 31, cut(in, sizes...)...)
			if !bytes.Equal(at.Read(100), want) || !bytes.Equal(once.Read(100), want) {
				t.Errorf("P2.1: New(%d, 31): parts of %d matter on the way in", rate, sizes)
			}
		}
	}
}

func TestPartsOfWhatComesOut(t *testing.T) {
	for _, rate := range []int{8, 72, 136, 168, 192} {
		in := mixed(rate+3, rate)
		want := slow(rate, 31, in, 3*rate+17)
		for _, sizes := range partings {
			s := taken(t, rate, 31, in)
			var got []byte
			for _, part := range cut(want, sizes...) {
				read := s.Read(len(part))
				if len(read) != len(part) {
					t.Fatalf("P2.1: Read(%d) is %d bytes", len(part), len(read))
				}
				got = append(got, read...)
			}
			if !bytes.Equal(got, want) {
				t.Errorf("P2.1: New(%d, 31): parts of %d matter on the way out", rate, sizes)
			}
		}
	}
}

func TestWriteBehindReadIsOver(t *testing.T) {
	for _, n := range []int{1, 135, 136, 137, 1 << 20} {
		s, want := taken(t, 136, 31, mixed(200, 1)), sha3.SumSHAKE256(mixed(200, 1), n+300)
		got := s.Read(n)
		for _, parts := range [][][]byte{nil, {}, {nil}, {{}}, {{1}}, {mixed(136, 2), mixed(500, 3)}} {
			if e := s.Write(parts...); !is(e, api.ErrOver) {
				t.Errorf("P2.1: Write of %d parts behind Read(%d): %v", len(parts), n, e)
			}
		}
		if got = append(got, s.Read(300)...); !bytes.Equal(got, want) {
			t.Errorf("R5: a Write that is over changes what comes out behind Read(%d)", n)
		}
	}
}

var noLengths = []int{0, -1, -8, -136, -1 << 20, math.MinInt, 1<<20 + 1, 1<<20 + 8, 1 << 32, 1<<32 + 5, math.MaxInt}

func TestWriteBehindReadOfNone(t *testing.T) {
	s := taken(t, 136, 31, mixed(100, 1))
	for _, n := range noLengths {
		if got := s.Read(n); len(got) != 0 {
			t.Errorf("P2.1: Read(%d) is %d bytes", n, len(got))
		}
	}
	if e := s.Write(mixed(100, 2)); e != nil {
		t.Errorf("P2.1: Write behind a Read of none: %v", e)
	}
	in := append(mixed(100, 1), mixed(100, 2)...)
	if !bytes.Equal(s.Read(200), sha3.SumSHAKE256(in, 200)) {
		t.Error("P2.1: a Read of none ends what goes in")
	}
}

func TestReadOfNoneAmongOthers(t *testing.T) {
	s, want := taken(t, 136, 31, mixed(50, 1)), sha3.SumSHAKE256(mixed(50, 1), 137*len(noLengths))
	var got []byte
	for _, n := range noLengths {
		got = append(got, s.Read(137)...)
		if none := s.Read(n); len(none) != 0 {
			t.Errorf("P2.1: Read(%d) is %d bytes", n, len(none))
		}
	}
	if !bytes.Equal(got, want) {
		t.Error("P2.1: a Read of none takes bytes away")
	}
}

func TestReadAtItsMost(t *testing.T) {
	in := mixed(77, 1)
	want := sha3.SumSHAKE128(in, 2<<20)
	s := taken(t, 168, 31, in)
	if !bytes.Equal(s.Read(1<<20), want[:1<<20]) || !bytes.Equal(s.Read(1<<20), want[1<<20:]) {
		t.Error("P2.1: Read(2^20), twice")
	}
	if len(taken(t, 8, 31, in).Read(1<<20)) != 1<<20 {
		t.Error("P2.1: Read(2^20) of the least rate")
	}
}

func TestNoSponge(t *testing.T) {
	for name, s := range map[string]*Sponge{"nil": nil, "New(7, 31)": New(7, 31), "New(136, 0)": New(136, 0), "one that New did not answer": {}} {
		for _, parts := range [][][]byte{nil, {nil}, {mixed(500, 1)}} {
			if e := s.Write(parts...); !is(e, api.ErrNil) {
				t.Errorf("R3: Write of %s: %v", name, e)
			}
		}
		for _, n := range append([]int{1, 500, 1 << 20}, noLengths...) {
			if got := s.Read(n); len(got) != 0 {
				t.Errorf("R3: Read(%d) of %s is %d bytes", n, name, len(got))
			}
		}
	}
}

// calls are all that take parts in and answer bytes.
func calls() map[string]func(parts ...[]byte) []byte {
	return map[string]func(parts ...[]byte) []byte{
		"Write":    func(p ...[]byte) []byte { s := New(136, 31); s.Write(p...); return s.Read(300) },
		"Shake128": func(p ...[]byte) []byte { return Shake128(300, p...) },
		"Shake256": func(p ...[]byte) []byte { return Shake256(300, p...) },
		"Sha256":   Sha256,
		"Sha512":   Sha512,
	}
}

func TestWhatIsHandedInStays(t *testing.T) {
	for name, call := range calls() {
		room := mixed(600, 1)
		parts := append(make([][]byte, 0, 5), room[:100], nil, room[100:350:400], room[5:5])
		call(parts...)
		if !bytes.Equal(room, mixed(600, 1)) {
			t.Errorf("R4: %s changes bytes that it is handed, or their spare room", name)
		}
		if len(parts[0]) != 100 || parts[1] != nil || len(parts[2]) != 250 || len(parts[3]) != 0 || parts[:5][4] != nil {
			t.Errorf("R4: %s changes the list of parts", name)
		}
	}
}

func TestWhatIsHandedInIsNotKept(t *testing.T) {
	for n := range 300 {
		in, s := mixed(n, 1), New(136, 31)
		parts := [][]byte{in}
		s.Write(parts...)
		clear(in)
		parts[0] = mixed(50, 9)
		if !bytes.Equal(s.Read(40), sha3.SumSHAKE256(mixed(n, 1), 40)) {
			t.Fatalf("R4: of %d bytes Write keeps some", n)
		}
	}
}

func TestWhatIsAnsweredIsNew(t *testing.T) {
	s, want := taken(t, 136, 31, mixed(50, 1)), sha3.SumSHAKE256(mixed(50, 1), 3*400)
	var kept [][]byte
	for k := range 3 {
		got := s.Read(400)
		if !bytes.Equal(got, want[400*k:400*(k+1)]) {
			t.Fatalf("R4: Read number %d tells what an elder answer was changed to", k)
		}
		got = got[:cap(got)]
		for i := range got {
			got[i] = byte(k)
		}
		kept = append(kept, got)
	}
	for k, got := range kept {
		if bytes.Count(got, []byte{byte(k)}) != len(got) {
			t.Errorf("R4: what Read number %d answered was changed later", k)
		}
	}
	for name, call := range calls() {
		first := call(mixed(20, 1))
		copied := bytes.Clone(first)
		clear(call(mixed(20, 1)))
		if !bytes.Equal(first, copied) {
			t.Errorf("R4: answers of %s share memory", name)
		}
	}
}

func TestSpongesAreApart(t *testing.T) {
	a, b := New(136, 31), New(136, 31)
	for k := range 20 {
		a.Write(mixed(37, k))
		b.Write(mixed(41, k), mixed(3, k))
	}
	var ina, inb []byte
	for k := range 20 {
		ina = append(ina, mixed(37, k)...)
		inb = append(append(inb, mixed(41, k)...), mixed(3, k)...)
	}
	wanta, wantb := sha3.SumSHAKE256(ina, 2000), sha3.SumSHAKE256(inb, 2000)
	for k := range 20 {
		if !bytes.Equal(a.Read(100), wanta[100*k:100*(k+1)]) || !bytes.Equal(b.Read(100), wantb[100*k:100*(k+1)]) {
			t.Fatalf("R5: two sponges in turns, Read number %d", k)
		}
	}
}

func TestHashesAsTheyArePrinted(t *testing.T) {
	for _, x := range []struct {
		name, want string
		got        []byte
	}{
		{"Sha256()", "a7ffc6f8bf1ed76651c14756a061d662f580ff4de43b49fa82d80a4b80f8434a", Sha256()},
		{"Sha256(abc)", "3a985da74fe225b2045c172d6bd390bd855f086e3e9d525b46bfe24511431532", Sha256([]byte("abc"))},
		{"Sha512()", "a69f73cca23a9ac5c8b567dc185a756e97c982164fe25859e0d1dcc1475c80a615b2123af1f5f94c11e3e9402c3ac558f500199d95b6d3e301758586281dcd26", Sha512()},
		{"Sha512(abc)", "b751850b1a57168a5693cd924b6b096e08f621827444f70d884f5d0240d2712e10e116e9192af3c91a7ec57647e3934057340b4cf408d5a56592f8274eec53f0", Sha512([]byte("a"), nil, []byte("bc"))},
		{"Shake128(32)", "7f9c2ba4e88f827d616045507605853ed73b8093f6efbc88eb1a6eacfa66ef26", Shake128(32)},
		{"Shake256(32)", "46b9dd2b0ba88d13233b3feb743eeb243fcd52ea62b81b82b50c27646ed5762f", Shake256(32)},
	} {
		if got := hex.EncodeToString(x.got); got != x.want {
			t.Errorf("P2.2: %s is %s, not %s", x.name, got, x.want)
		}
	}
}

func TestHashesAreThoseOfFIPS202(t *testing.T) {
	for n := range 600 {
		in := mixed(n, n)
		parts := cut(in, 1+n%11, 50)
		small, great := sha3.Sum256(in), sha3.Sum512(in)
		if got := Sha256(parts...); !bytes.Equal(got, small[:]) {
			t.Fatalf("P2.2: Sha256 of %d bytes is %x", n, got)
		}
		if got := Sha512(parts...); !bytes.Equal(got, great[:]) {
			t.Fatalf("P2.2: Sha512 of %d bytes is %x", n, got)
		}
		if got := Shake128(n+1, parts...); !bytes.Equal(got, sha3.SumSHAKE128(in, n+1)) {
			t.Fatalf("P2.2: Shake128 of %d bytes is %x", n, got)
		}
		if got := Shake256(n+1, parts...); !bytes.Equal(got, sha3.SumSHAKE256(in, n+1)) {
			t.Fatalf("P2.2: Shake256 of %d bytes is %x", n, got)
		}
	}
}

func TestHashesAreReadsOfSponges(t *testing.T) {
	for _, n := range []int{0, 71, 72, 73, 135, 136, 137, 167, 168, 169, 1000} {
		in := mixed(n, 4)
		for name, x := range map[string]struct{ got, want []byte }{
			"Shake128": {Shake128(500, in), taken(t, 168, 31, in).Read(500)},
			"Shake256": {Shake256(500, in), taken(t, 136, 31, in).Read(500)},
			"Sha256":   {Sha256(in), taken(t, 136, 6, in).Read(32)},
			"Sha512":   {Sha512(in), taken(t, 72, 6, in).Read(64)},
		} {
			if !bytes.Equal(x.got, x.want) {
				t.Errorf("P2.2: %s of %d bytes is %x, not %x", name, n, x.got, x.want)
			}
		}
	}
}

func TestShakesOfLengthsAtTheEdges(t *testing.T) {
	in := mixed(500, 1)
	for _, n := range noLengths {
		if len(Shake128(n, in)) != 0 || len(Shake256(n, in)) != 0 || len(Shake128(n)) != 0 || len(Shake256(n)) != 0 {
			t.Errorf("P2.2: a Shake of %d bytes is not none", n)
		}
	}
	for _, n := range []int{1, 135, 136, 137, 167, 168, 169, 1<<20 - 1, 1 << 20} {
		if !bytes.Equal(Shake128(n, in), sha3.SumSHAKE128(in, n)) || !bytes.Equal(Shake256(n, in), sha3.SumSHAKE256(in, n)) {
			t.Errorf("P2.2: a Shake of %d bytes", n)
		}
	}
}

func TestMuchGoesIn(t *testing.T) {
	in := mixed(5<<20, 1)
	if !bytes.Equal(Shake128(64, in[:3], in[3:]), sha3.SumSHAKE128(in, 64)) {
		t.Error("P2.2: Shake128 of 5 MiB")
	}
}

func TestSeveralGoroutinesAtOneTime(t *testing.T) {
	shared := mixed(1000, 1)
	for n := range 8 {
		t.Run(strconv.Itoa(n), func(t *testing.T) {
			t.Parallel()
			for k := range 50 {
				in := shared[k : k+100*n]
				want := sha3.Sum256(in)
				if !bytes.Equal(Sha256(in), want[:]) || !bytes.Equal(Shake128(200, in), sha3.SumSHAKE128(in, 200)) {
					t.Fatalf("R5: beside others, bytes from %d", k)
				}
			}
		})
	}
}

func BenchmarkShake128(b *testing.B) {
	in := mixed(34, 1)
	b.SetBytes(840)
	for b.Loop() {
		Shake128(840, in)
	}
}

func BenchmarkSha256(b *testing.B) {
	in := mixed(10000, 1)
	b.SetBytes(10000)
	for b.Loop() {
		Sha256(in)
	}
}
