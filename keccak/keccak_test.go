package keccak

import (
	"crypto/sha3"
	"encoding/binary"
	"math"
	"math/bits"
	"strconv"
	"testing"
)

// The steps by the chapter's words, lane by lane, as slow as they stand there.

func lane(x, y int) int { return (x%5+5)%5 + 5*((y%5+5)%5) }

func slowTheta(a [25]uint64) [25]uint64 {
	column := func(x int) uint64 {
		return a[lane(x, 0)] ^ a[lane(x, 1)] ^ a[lane(x, 2)] ^ a[lane(x, 3)] ^ a[lane(x, 4)]
	}
	b := a
	for y := range 5 {
		for x := range 5 {
			b[lane(x, y)] ^= column(x-1) ^ bits.RotateLeft64(column(x+1), 1)
		}
	}
	return b
}

func slowRho(a [25]uint64) [25]uint64 {
	x, y := 1, 0
	for t := range 24 {
		a[lane(x, y)] = bits.RotateLeft64(a[lane(x, y)], (t+1)*(t+2)/2%64)
		x, y = y, (2*x+3*y)%5
	}
	return a
}

func slowPi(a [25]uint64) [25]uint64 {
	b := a
	for y := range 5 {
		for x := range 5 {
			b[lane(x, y)] = a[lane(x+3*y, x)]
		}
	}
	return b
}

func slowChi(a [25]uint64) [25]uint64 {
	b := a
	for y := range 5 {
		for x := range 5 {
			b[lane(x, y)] ^= ^a[lane(x+1, y)] & a[lane(x+2, y)]
		}
	}
	return b
}

func rc(t int) uint64 {
	if t%255 == 0 {
		return 1
	}
	r := []uint64{1, 0, 0, 0, 0, 0, 0, 0}
	for range t % 255 {
		r = append([]uint64{0}, r...)
		for _, i := range []int{0, 4, 5, 6} {
			r[i] ^= r[8]
		}
		r = r[:8]
	}
	return r[0]
}

func slowIota(a [25]uint64, round int) [25]uint64 {
	if round < 0 || round > 23 {
		return a
	}
	for j := range 7 {
		a[0] ^= rc(j+7*round) << (1<<j - 1)
	}
	return a
}

func slowRound(a [25]uint64, round int) [25]uint64 {
	return slowIota(slowChi(slowPi(slowRho(slowTheta(a)))), round)
}

func slowPermute(a [25]uint64) [25]uint64 {
	for round := range 24 {
		a = slowRound(a, round)
	}
	return a
}

// noRounds are rounds that are none.
var noRounds = []int{-1, -24, -255, math.MinInt, 24, 25, 47, 255, 1 << 32, math.MaxInt}

// mixed is a state whose words are all others, other ones for each n.
func mixed(n int) [25]uint64 {
	x := uint64(n)*0x9E3779B97F4A7C15 + 0xD1B54A32D192ED03
	var a [25]uint64
	for i := range a {
		x ^= x << 13
		x ^= x >> 7
		x ^= x << 17
		a[i] = x
	}
	return a
}

// states are zeros, ones, each word alone with its ends set, each bit of word 7, and mixed ones.
func states() [][25]uint64 {
	var zeros, ones [25]uint64
	for i := range ones {
		ones[i] = math.MaxUint64
	}
	all := [][25]uint64{zeros, ones}
	for i := range 25 {
		a := zeros
		a[i] = 1<<63 | 1
		all = append(all, a)
	}
	for b := range 64 {
		all = append(all, [25]uint64{7: 1 << b})
	}
	for n := range 100 {
		all = append(all, mixed(n))
	}
	return all
}

func TestStepsAsTheChapterSays(t *testing.T) {
	steps := []struct {
		name       string
		fast, slow func([25]uint64) [25]uint64
	}{
		{"Theta", Theta, slowTheta},
		{"Rho", Rho, slowRho},
		{"Pi", Pi, slowPi},
		{"Chi", Chi, slowChi},
		{"Permute", Permute, slowPermute},
	}
	for _, s := range steps {
		for _, a := range states() {
			if got, want := s.fast(a), s.slow(a); got != want {
				t.Fatalf("P1.1: %s(%x) is %x, not %x", s.name, a, got, want)
			}
		}
	}
}

func TestIotaOfEachRound(t *testing.T) {
	for _, a := range states() {
		for round := range 24 {
			if got, want := Iota(a, round), slowIota(a, round); got != want {
				t.Fatalf("P1.1: Iota(.., %d) is %x, not %x", round, got, want)
			}
		}
	}
}

func TestIotaAtTheEdges(t *testing.T) {
	words := map[int]uint64{0: 1, 1: 0x8082, 22: 0x80000001, 23: 0x8000000080008008}
	for round, w := range words {
		if got := Iota([25]uint64{}, round); got != [25]uint64{w} {
			t.Errorf("P1.1: Iota(zeros, %d) is %x, not %x and zeros", round, got, w)
		}
	}
}

func TestIotaOfNoRoundChangesNothing(t *testing.T) {
	for _, a := range states() {
		for _, round := range noRounds {
			if got := Iota(a, round); got != a {
				t.Fatalf("P1.1: Iota(.., %d) changes %x to %x", round, a, got)
			}
		}
	}
}

func TestRoundIsTheFiveSteps(t *testing.T) {
	rounds := append([]int{}, noRounds...)
	for round := range 24 {
		rounds = append(rounds, round)
	}
	for _, a := range states() {
		for _, round := range rounds {
			got := Round(a, round)
			if got != Iota(Chi(Pi(Rho(Theta(a)))), round) || got != slowRound(a, round) {
				t.Fatalf("P1.1: Round(%x, %d) is %x", a, round, got)
			}
		}
	}
}

func TestPermuteIsRounds0To23(t *testing.T) {
	for _, a := range states() {
		b := a
		for round := range 24 {
			b = Round(b, round)
		}
		if got := Permute(a); got != b {
			t.Fatalf("P1.1: Permute(%x) is %x, not its 24 rounds", a, got)
		}
	}
}

func TestPermuteOfZeros(t *testing.T) {
	want := [25]uint64{
		0xF1258F7940E1DDE7, 0x84D5CCF933C0478A, 0xD598261EA65AA9EE, 0xBD1547306F80494D, 0x8B284E056253D057,
		0xFF97A42D7F8E6FD4, 0x90FEE5A0A44647C4, 0x8C5BDA0CD6192E76, 0xAD30A6F71B19059C, 0x30935AB7D08FFC64,
		0xEB5AA93F2317D635, 0xA9A6E6260D712103, 0x81A57C16DBCF555F, 0x43B831CD0347C826, 0x01F22F1A11A5569F,
		0x05E5635A21D9AE61, 0x64BEFEF28CC970F2, 0x613670957BC46611, 0xB87C5A554FD00ECB, 0x8C3EE88A1CCF32C8,
		0x940C7922AE3A2614, 0x1841F924A2C509E4, 0x16F53526E70465C2, 0x75F644E97F30A13B, 0xEAF1FF7B5CECA249,
	}
	if got := Permute([25]uint64{}); got != want {
		t.Errorf("P1.1: Permute(zeros) is %x, not %x", got, want)
	}
}

// The library's hash stands on the same permutation: what it makes of a short text is one Permute.
func TestPermuteIsThatOfFIPS202(t *testing.T) {
	for n := range 136 {
		text := make([]byte, n)
		for i := range text {
			text[i] = byte(31*i + n)
		}
		padded := make([]byte, 136)
		copy(padded, text)
		padded[n] ^= 6
		padded[135] ^= 128
		var a [25]uint64
		for i := range 17 {
			a[i] = binary.LittleEndian.Uint64(padded[8*i:])
		}
		a = Permute(a)
		want := sha3.Sum256(text)
		for i := range 4 {
			if a[i] != binary.LittleEndian.Uint64(want[8*i:]) {
				t.Fatalf("P1.1: Permute of a text of %d bytes, word %d: %x", n, i, a[i])
			}
		}
	}
}

func TestWhatIsHandedInStays(t *testing.T) {
	a := mixed(5)
	for name, call := range map[string]func(){
		"Theta":   func() { Theta(a) },
		"Rho":     func() { Rho(a) },
		"Pi":      func() { Pi(a) },
		"Chi":     func() { Chi(a) },
		"Iota":    func() { Iota(a, 3) },
		"Round":   func() { Round(a, 3) },
		"Permute": func() { Permute(a) },
	} {
		if call(); a != mixed(5) {
			t.Errorf("R4: %s changes what it is handed", name)
		}
	}
}

func TestSeveralGoroutinesAtOneTime(t *testing.T) {
	for n := range 8 {
		t.Run(strconv.Itoa(n), func(t *testing.T) {
			t.Parallel()
			for k := range 50 {
				if a := mixed(100*n + k); Permute(a) != slowPermute(a) {
					t.Fatalf("R5: Permute beside others, state %d", 100*n+k)
				}
			}
		})
	}
}

func BenchmarkPermute(b *testing.B) {
	a := mixed(1)
	for b.Loop() {
		a = Permute(a)
	}
}
