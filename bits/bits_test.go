package bits

import (
	"bytes"
	"math"
	"math/big"
	"math/rand"
	"slices"
	"sync"
	"testing"
)

// widths are all by which numbers are packed.
func widths() []int {
	var found []int
	for d := 1; d <= 24; d++ {
		found = append(found, d)
	}
	return found
}

// noWidths are widths by which no numbers are packed; some would be, if they were cut to 32, 16 or 8 bits.
func noWidths() []int {
	return []int{0, -1, -2, -7, -8, -12, -24, -25, -64, -1 << 32, -1<<32 + 8, math.MinInt, math.MinInt + 1, math.MinInt + 8,
		25, 26, 31, 32, 33, 48, 61, 62, 63, 64, 65, 72, 256 + 8, 1<<16 + 8, 1 << 32, 1<<32 + 8, math.MaxInt - 1, math.MaxInt}
}

// drawn are numbers of d bits, the same for the same seed.
func drawn(seed int, d int, many int) []int {
	from := rand.New(rand.NewSource(int64(100*seed + d)))
	xs := make([]int, many)
	for i := range xs {
		xs[i] = from.Intn(1 << d)
	}
	return xs
}

// drawnBytes are the same for the same seed.
func drawnBytes(seed int, many int) []byte {
	b := make([]byte, many)
	rand.New(rand.NewSource(int64(seed))).Read(b)
	return b
}

// lists are lists of so many numbers of d bits: ordinary ones, and those of 0 and 2^d - 1.
func lists(d int, many int) [][]int {
	top := 1<<d - 1
	mixed := make([]int, many)
	for i := range mixed {
		mixed[i] = i % 2 * top
	}
	return [][]int{drawn(1, d, many), drawn(2, d, many), drawn(3, d, many), mixed,
		make([]int, many), slices.Repeat([]int{1}, many), slices.Repeat([]int{top}, many)}
}

// far are numbers about 0, about powers of 2 on both sides of 0, and the ends of the whole numbers.
func far() []int {
	found := []int{math.MinInt, math.MinInt + 1, math.MinInt + 5, math.MaxInt, math.MaxInt - 1, 0x123456789ABCDEF, -0x123456789ABCDEF}
	for x := -70; x <= 70; x++ {
		found = append(found, x)
	}
	for k := range 63 {
		n := 1 << k
		found = append(found, n-1, n, n+1, -n-1, -n, -n+1)
	}
	from := rand.New(rand.NewSource(5))
	for range 100 {
		found = append(found, int(from.Uint64()))
	}
	return found
}

// slowBits are the d lowest bits of x, the lowest first.
func slowBits(d int, x int) []int {
	left := new(big.Int).Mod(big.NewInt(int64(x)), new(big.Int).Lsh(big.NewInt(1), uint(d)))
	found := make([]int, d)
	for k := range found {
		found[k] = int(left.Bit(k))
	}
	return found
}

// slowNumber is the number of these bits, the lowest first.
func slowNumber(row []int) int {
	x, worth := 0, 1
	for _, bit := range row {
		x += bit * worth
		worth *= 2
	}
	return x
}

// slowPack goes by the chapter's words: a row of all bits, zeros up to a whole byte, then byte by byte.
func slowPack(d int, xs []int) []byte {
	var row []int
	for _, x := range xs {
		row = append(row, slowBits(d, x)...)
	}
	for len(row)%8 != 0 {
		row = append(row, 0)
	}
	var packed []byte
	for ; len(row) > 0; row = row[8:] {
		packed = append(packed, byte(slowNumber(row[:8])))
	}
	return packed
}

// slowUnpack goes by the chapter's words: a row of all bits, then number by number, as long as there is a whole one.
func slowUnpack(d int, b []byte) []int {
	var row []int
	for _, c := range b {
		row = append(row, slowBits(8, int(c))...)
	}
	var numbers []int
	for ; len(row) >= d; row = row[d:] {
		numbers = append(numbers, slowNumber(row[:d]))
	}
	return numbers
}

func TestExamples(t *testing.T) {
	if got := Pack(4, 1, 2, 3); !bytes.Equal(got, []byte{33, 3}) {
		t.Errorf("P5.1: Pack(4, 1, 2, 3) is %v, not 33, 3", got)
	}
	if got := Turn(7, 1); got != 64 {
		t.Errorf("P5.1: Turn(7, 1) is %d, not 64", got)
	}
}

func TestPackByHand(t *testing.T) {
	for _, x := range []struct {
		d    int
		xs   []int
		want []byte
	}{
		{1, []int{1}, []byte{1}},
		{1, []int{0}, []byte{0}},
		{1, []int{1, 0, 0, 0, 0, 0, 1}, []byte{65}},
		{1, []int{0, 0, 0, 0, 0, 0, 0, 1}, []byte{128}},
		{1, []int{0, 0, 0, 0, 0, 0, 0, 1, 1}, []byte{128, 1}},
		{1, []int{0, 0, 0, 0, 0, 0, 0, 0, 0}, []byte{0, 0}},
		{8, []int{0, 1, 128, 255}, []byte{0, 1, 128, 255}},
		{12, []int{1}, []byte{1, 0}},
		{12, []int{0xFFF}, []byte{0xFF, 0x0F}},
		{12, []int{0x123, 0x456}, []byte{0x23, 0x61, 0x45}},
		{12, []int{0x123, 0x456, 0x789}, []byte{0x23, 0x61, 0x45, 0x89, 0x07}},
		{16, []int{0x1234, 0xFFFF}, []byte{0x34, 0x12, 0xFF, 0xFF}},
		{23, []int{1<<23 - 1, 1}, []byte{255, 255, 255, 0, 0, 0}},
		{24, []int{0xABCDEF, 1<<24 - 1, 0}, []byte{0xEF, 0xCD, 0xAB, 255, 255, 255, 0, 0, 0}},
	} {
		if got := Pack(x.d, x.xs...); !bytes.Equal(got, x.want) {
			t.Errorf("P5.1: Pack(%d, %v) is %v, not %v", x.d, x.xs, got, x.want)
		}
	}
}

func TestPackOfNoNumbers(t *testing.T) {
	for _, d := range append(widths(), noWidths()...) {
		if len(Pack(d)) != 0 || len(Pack(d, nil...)) != 0 || len(Pack(d, []int{}...)) != 0 || len(Pack(d, drawn(1, 1, 9)[:0]...)) != 0 {
			t.Errorf("P5.1: Pack of no numbers of %d bits tells bytes", d)
		}
	}
}

func TestPackByTheWords(t *testing.T) {
	for _, d := range widths() {
		for many := range 50 {
			for _, xs := range lists(d, many) {
				if got, want := Pack(d, xs...), slowPack(d, xs); !bytes.Equal(got, want) {
					t.Fatalf("P5.1: Pack(%d, %v) is %v, not %v", d, xs, got, want)
				}
			}
		}
	}
}

// So many numbers as fill bytes, one less, and one more: each bit is told, the last byte has zeros.
func TestPackAboutWholeBytes(t *testing.T) {
	for _, d := range widths() {
		for _, many := range []int{7, 8, 9, 15, 16, 17, 255, 256, 257} {
			got := Pack(d, slices.Repeat([]int{1<<d - 1}, many)...)
			whole, left := d*many/8, d*many%8
			want := slices.Repeat([]byte{255}, whole)
			if left > 0 {
				want = append(want, byte(1<<left-1))
			}
			if !bytes.Equal(got, want) {
				t.Errorf("P5.1: Pack of %d numbers of %d ones is %v", many, d, got)
			}
		}
	}
}

// One bit of one number is one bit of one byte.
func TestPackBitByBit(t *testing.T) {
	for _, d := range widths() {
		for place := range 9 {
			for k := range d {
				xs := make([]int, 9)
				xs[place] = 1 << k
				want := make([]byte, (9*d+7)/8)
				want[(place*d+k)/8] = 1 << ((place*d + k) % 8)
				if got := Pack(d, xs...); !bytes.Equal(got, want) {
					t.Fatalf("P5.1: Pack of bit %d of number %d of %d bits is %v", k, place, d, got)
				}
			}
		}
	}
}

func TestPackOfNoSuchWidth(t *testing.T) {
	for _, d := range noWidths() {
		for _, xs := range [][]int{{0}, {1}, {0, 0}, {1, 2, 3}, {-1}, {1 << 24}, {math.MaxInt}, {math.MinInt}, make([]int, 256)} {
			if got := Pack(d, xs...); len(got) != 0 {
				t.Errorf("P5.1: Pack of %d bits tells %v", d, got)
			}
		}
	}
}

func TestPackOfOtherNumbers(t *testing.T) {
	for _, d := range widths() {
		others := []int{-1, -2, -1 << d, -1<<d + 1, math.MinInt, math.MinInt + 1, 1 << d, 1<<d + 1, 2<<d - 1, 2 << d,
			1 << 32, 1 << 62, math.MaxInt}
		for _, many := range []int{1, 2, 3, 8, 256} {
			for _, place := range []int{0, many / 2, many - 1} {
				for _, other := range others {
					xs := drawn(7, d, many)
					xs[place] = other
					if got := Pack(d, xs...); len(got) != 0 {
						t.Errorf("P5.1: Pack of %d bits with %d as number %d of %d tells %v", d, other, place, many, got)
					}
				}
			}
		}
	}
}

func TestPackOfTheLeastAndTheGreatest(t *testing.T) {
	for _, d := range widths() {
		for _, many := range []int{1, 2, 3, 8, 256} {
			for _, place := range []int{0, many / 2, many - 1} {
				for _, x := range []int{0, 1<<d - 1} {
					xs := drawn(8, d, many)
					xs[place] = x
					if got, want := Pack(d, xs...), slowPack(d, xs); !bytes.Equal(got, want) {
						t.Errorf("P5.1: Pack of %d bits with %d as number %d of %d is %v, not %v", d, x, place, many, got, want)
					}
				}
			}
		}
	}
}

// What stands in a list's spare room is none of its numbers.
func TestPackOfAListWithSpareRoom(t *testing.T) {
	if got := Pack(4, []int{1, 2, 3, -1, 99}[:3]...); !bytes.Equal(got, []byte{33, 3}) {
		t.Errorf("P5.1: Pack of three numbers, with others in the spare room, is %v", got)
	}
}

func TestUnpackByHand(t *testing.T) {
	for _, x := range []struct {
		d    int
		b    []byte
		want []int
	}{
		{4, []byte{33, 3}, []int{1, 2, 3, 0}},
		{1, []byte{129}, []int{1, 0, 0, 0, 0, 0, 0, 1}},
		{3, []byte{0xFF}, []int{7, 7}},
		{3, []byte{0xC0}, []int{0, 0}},
		{3, []byte{0xC1}, []int{1, 0}},
		{3, []byte{0xC0, 0x01}, []int{0, 0, 7, 0, 0}},
		{7, []byte{0x80}, []int{0}},
		{7, []byte{0x80, 0}, []int{0, 1}},
		{8, []byte{0, 1, 128, 255}, []int{0, 1, 128, 255}},
		{12, []byte{0x23, 0x61, 0x45}, []int{0x123, 0x456}},
		{12, []byte{0x23, 0x61, 0x45, 0x99}, []int{0x123, 0x456}},
		{12, []byte{0x23, 0xF1}, []int{0x123}},
		{24, []byte{0xEF, 0xCD, 0xAB}, []int{0xABCDEF}},
		{24, []byte{255, 255, 255, 1, 2}, []int{1<<24 - 1}},
	} {
		if got := Unpack(x.d, x.b); !slices.Equal(got, x.want) {
			t.Errorf("P5.1: Unpack(%d, %v) is %v, not %v", x.d, x.b, got, x.want)
		}
	}
}

func TestUnpackByTheWords(t *testing.T) {
	for _, d := range widths() {
		for many := range 50 {
			for _, b := range [][]byte{drawnBytes(many, many), drawnBytes(d, many), make([]byte, many), slices.Repeat([]byte{255}, many)} {
				got, want := Unpack(d, b), slowUnpack(d, b)
				if len(got) != 8*many/d || !slices.Equal(got, want) {
					t.Fatalf("P5.1: Unpack(%d, %v) is %v, not %v", d, b, got, want)
				}
			}
		}
	}
}

func TestUnpackOfEachByte(t *testing.T) {
	for c := range 256 {
		for _, d := range widths() {
			b := []byte{byte(c), byte(255 - c), byte(c)}
			if got, want := Unpack(d, b), slowUnpack(d, b); !slices.Equal(got, want) {
				t.Errorf("P5.1: Unpack(%d, %v) is %v, not %v", d, b, got, want)
			}
		}
	}
}

func TestUnpackOfNoBytes(t *testing.T) {
	for _, d := range append(widths(), noWidths()...) {
		if len(Unpack(d, nil)) != 0 || len(Unpack(d, []byte{})) != 0 || len(Unpack(d, []byte{255, 255, 255}[:0])) != 0 {
			t.Errorf("P5.1: Unpack of no bytes tells numbers of %d bits", d)
		}
	}
}

// As many bytes as still have no number, then as many as have one.
func TestUnpackOfFewBits(t *testing.T) {
	for _, d := range widths() {
		for many := range 4 {
			got := Unpack(d, slices.Repeat([]byte{255}, many))
			if want := slices.Repeat([]int{1<<d - 1}, 8*many/d); !slices.Equal(got, want) {
				t.Errorf("P5.1: Unpack(%d, ..) of %d bytes is %v, not %v", d, many, got, want)
			}
		}
	}
}

func TestUnpackOfNoSuchWidth(t *testing.T) {
	for _, d := range noWidths() {
		for _, many := range []int{1, 2, 3, 4, 8, 9, 32, 256} {
			if got := Unpack(d, drawnBytes(1, many)); len(got) != 0 {
				t.Errorf("P5.1: Unpack of %d bits tells %v", d, got)
			}
		}
	}
}

func TestPackedThenUnpacked(t *testing.T) {
	for _, d := range widths() {
		for many := range 50 {
			for _, xs := range lists(d, many) {
				got := Unpack(d, Pack(d, xs...))
				zeros := make([]int, 8*((many*d+7)/8)/d-many)
				if want := slices.Concat(xs, zeros); !slices.Equal(got, want) {
					t.Fatalf("P5.1: %v, packed by %d bits and unpacked, is %v", xs, d, got)
				}
			}
		}
	}
}

func TestUnpackedThenPacked(t *testing.T) {
	for _, d := range widths() {
		for many := range 50 {
			b := drawnBytes(many, many)
			got := Pack(d, Unpack(d, b)...)
			told := many * 8 / d * d
			want := slices.Clone(b[:(told+7)/8])
			if told%8 != 0 {
				want[len(want)-1] &= 1<<(told%8) - 1
			}
			if !bytes.Equal(got, want) {
				t.Fatalf("P5.1: %v, unpacked by %d bits and packed, is %v, not %v", b, d, got, want)
			}
			if many%d == 0 && !bytes.Equal(got, b) {
				t.Fatalf("P5.1: %v, whole numbers of %d bits, is unpacked and packed %v", b, d, got)
			}
		}
	}
}

func TestLowAndTurnByHand(t *testing.T) {
	const top = 1<<62 - 1
	for _, x := range []struct{ d, x, low, turn int }{
		{0, 0, 0, 0}, {0, 1, 0, 0}, {0, -1, 0, 0}, {0, math.MinInt, 0, 0}, {0, math.MaxInt, 0, 0},
		{1, 0, 0, 0}, {1, 1, 1, 1}, {1, 2, 0, 0}, {1, -1, 1, 1}, {1, -2, 0, 0}, {1, math.MinInt, 0, 0}, {1, math.MaxInt, 1, 1},
		{2, 1, 1, 2}, {2, 2, 2, 1}, {2, 5, 1, 2}, {2, -3, 1, 2}, {3, 6, 6, 3}, {3, -7, 1, 4},
		{7, 1, 1, 64}, {7, 64, 64, 1}, {7, 127, 127, 127}, {7, 128, 0, 0}, {8, 1, 1, 128}, {8, 0x35, 0x35, 0xAC},
		{61, 1, 1, 1 << 60}, {61, -1, top / 2, top / 2}, {61, math.MinInt, 0, 0},
		{62, 0, 0, 0}, {62, 1, 1, 1 << 61}, {62, 1 << 61, 1 << 61, 1}, {62, 1 << 62, 0, 0}, {62, -1, top, top},
		{62, -2, top - 1, top / 2}, {62, math.MinInt, 0, 0}, {62, math.MinInt + 1, 1, 1 << 61}, {62, math.MaxInt, top, top},
		{62, math.MaxInt - 1, top - 1, top / 2},
	} {
		if low, turn := Low(x.d, x.x), Turn(x.d, x.x); low != x.low || turn != x.turn {
			t.Errorf("P5.1: Low, Turn(%d, %d) are %d, %d, not %d, %d", x.d, x.x, low, turn, x.low, x.turn)
		}
	}
}

func TestLowAndTurnByTheWords(t *testing.T) {
	for d := 0; d <= 62; d++ {
		for _, x := range far() {
			row := slowBits(d, x)
			if got, want := Low(d, x), slowNumber(row); got != want {
				t.Fatalf("P5.1: Low(%d, %d) is %d, not %d", d, x, got, want)
			}
			slices.Reverse(row)
			if got, want := Turn(d, x), slowNumber(row); got != want {
				t.Fatalf("P5.1: Turn(%d, %d) is %d, not %d", d, x, got, want)
			}
			if got, want := Turn(d, Turn(d, x)), Low(d, x); got != want {
				t.Fatalf("P5.1: Turn(%d, Turn(%d, %d)) is %d, not %d", d, d, x, got, want)
			}
		}
	}
}

func TestLowAndTurnOfNoSuchWidth(t *testing.T) {
	for _, d := range []int{-1, -2, -7, -62, -63, -64, -1 << 32, -1<<32 + 7, math.MinInt, math.MinInt + 1, math.MinInt + 7,
		63, 64, 65, 66, 127, 128, 256 + 7, 1<<16 + 7, 1 << 32, 1<<32 + 7, math.MaxInt - 1, math.MaxInt} {
		for _, x := range far() {
			if low, turn := Low(d, x), Turn(d, x); low != 0 || turn != 0 {
				t.Fatalf("P5.1: Low, Turn(%d, %d) are %d, %d, not 0, 0", d, x, low, turn)
			}
		}
	}
}

// What is handed in is told by what it holds, with its spare room, ahead of the call and behind it; then all of the answer, and of what was given, is written over.
func TestPackChangesAndSharesNothing(t *testing.T) {
	for _, d := range append(widths(), 0, -1, 25) {
		for many := range 20 {
			room := append(drawn(many, max(1, min(d, 24)), many), slices.Repeat([]int{-77}, 40)...)
			had, given := slices.Clone(room), room[:many]
			answer, again := Pack(d, given...), Pack(d, given...)
			want := slices.Clone(answer)
			if !bytes.Equal(again, want) {
				t.Fatalf("R5: Pack of %d bits told another answer the second time", d)
			}
			clear(again[:cap(again)])
			if !bytes.Equal(answer, want) {
				t.Fatalf("R4: two answers of Pack of %d bits share memory", d)
			}
			if !slices.Equal(room, had) {
				t.Fatalf("R4: Pack of %d bits changed what it was given, or shares memory with it", d)
			}
			clear(room)
			if !bytes.Equal(answer, want) {
				t.Fatalf("R4: the answer of Pack of %d bits shares memory with what was given", d)
			}
		}
	}
}

func TestPackOfAnotherNumberChangesNothing(t *testing.T) {
	for _, other := range []int{-1, 16, math.MinInt, math.MaxInt} {
		room := []int{1, 2, other, 3, -77, -78}
		had := slices.Clone(room)
		Pack(4, room[:4]...)
		if !slices.Equal(room, had) {
			t.Errorf("R4: Pack with the number %d changed what it was given", other)
		}
	}
}

func TestUnpackChangesAndSharesNothing(t *testing.T) {
	for _, d := range append(widths(), 0, -1, 25) {
		for many := range 20 {
			room := append(drawnBytes(many, many), slices.Repeat([]byte{77}, 40)...)
			had, given := slices.Clone(room), room[:many]
			answer, again := Unpack(d, given), Unpack(d, given)
			want := slices.Clone(answer)
			if !slices.Equal(again, want) {
				t.Fatalf("R5: Unpack of %d bits told another answer the second time", d)
			}
			clear(again[:cap(again)])
			if !slices.Equal(answer, want) {
				t.Fatalf("R4: two answers of Unpack of %d bits share memory", d)
			}
			if !bytes.Equal(room, had) {
				t.Fatalf("R4: Unpack of %d bits changed what it was given, or shares memory with it", d)
			}
			clear(room)
			if !slices.Equal(answer, want) {
				t.Fatalf("R4: the answer of Unpack of %d bits shares memory with what was given", d)
			}
		}
	}
}

func TestManyAtOnce(t *testing.T) {
	xs := drawn(1, 12, 256)
	packed := Pack(12, xs...)
	var all sync.WaitGroup
	for range 8 {
		all.Go(func() {
			for range 50 {
				if !bytes.Equal(Pack(12, xs...), packed) || !slices.Equal(Unpack(12, packed), xs) || Low(12, -1) != 4095 || Turn(12, 1) != 2048 {
					t.Error("R5: a call told another answer beside other calls")
				}
			}
		})
	}
	all.Wait()
}

func TestManyNumbers(t *testing.T) {
	for _, d := range []int{1, 7, 24} {
		xs := drawn(4, d, 100003)
		b := Pack(d, xs...)
		if len(b) != (100003*d+7)/8 || !slices.Equal(Unpack(d, b)[:len(xs)], xs) {
			t.Errorf("P5.1: 100003 numbers of %d bits, packed and unpacked, are others", d)
		}
	}
}

func BenchmarkPack(b *testing.B) {
	xs := drawn(1, 12, 256)
	for b.Loop() {
		Pack(12, xs...)
	}
}

func BenchmarkUnpack(b *testing.B) {
	packed := drawnBytes(1, 384)
	for b.Loop() {
		Unpack(12, packed)
	}
}

func BenchmarkTurn(b *testing.B) {
	for b.Loop() {
		Turn(8, 77)
	}
}
