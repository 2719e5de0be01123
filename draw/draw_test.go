package draw

import (
	"crypto/sha3"
	"errors"
	"math"
	"math/rand"
	"slices"
	"sync"
	"testing"

	"chatelaine/api"
	"chatelaine/sponge"
)

// drawnBytes are the same for the same seed.
func drawnBytes(seed int, many int) []byte {
	b := make([]byte, many)
	rand.New(rand.NewSource(int64(seed))).Read(b)
	return b
}

// seeds are of 32 bytes: all 0, all 255, and ordinary ones.
func seeds(many int) [][]byte {
	found := [][]byte{make([]byte, 32), slices.Repeat([]byte{255}, 32)}
	for k := range many {
		found = append(found, drawnBytes(k, 32))
	}
	return found
}

// noSeeds have not 32 bytes; some have, if their length is cut to 8 bits, or their spare room is counted.
func noSeeds() [][]byte {
	found := [][]byte{nil, {}, drawnBytes(1, 32)[:0], drawnBytes(1, 32)[:31], drawnBytes(1, 64)[:33]}
	for _, n := range []int{1, 2, 16, 31, 33, 34, 63, 64, 65, 128, 192, 256 + 32, 1<<16 + 32} {
		found = append(found, drawnBytes(n, n))
	}
	return found
}

// noEtas are neither 2 nor 3; some are, if they are cut to 32, 16 or 8 bits, or their sign is.
func noEtas() []int {
	return []int{0, 1, 4, 5, 6, 8, 64, 128, 192, -1, -2, -3, -4, 256 + 2, 256 + 3, 1<<16 + 2, 1<<32 + 2, 1<<32 + 3, -1<<32 + 2, -1<<32 + 3,
		math.MinInt, math.MinInt + 1, math.MinInt + 2, math.MinInt + 3, math.MaxInt, math.MaxInt - 1}
}

// is tells whether an error is, or wraps, a Fault with that Errno.
func is(e error, want api.Errno) bool {
	var f *api.Fault
	return errors.As(e, &f) && f.Code == want && errors.Is(e, want) && api.Code(e) == want
}

// refused tells whether a call answered such an error, and nothing beside it.
func refused(f []int, e error, want api.Errno) bool { return len(f) == 0 && is(e, want) }

// triple is what comes of three bytes by the chapter's words.
func triple(a, b, c byte) [2]int {
	return [2]int{int(a) + 256*(int(b)%16), int(b)/16 + 16*int(c)}
}

// slowEven goes by the chapter's words, with all bytes laid out first.
func slowEven(b []byte) []int {
	var f []int
	for k := 0; k < 1365; k++ {
		for _, x := range triple(b[3*k], b[3*k+1], b[3*k+2]) {
			if x < 3329 && len(f) < 256 {
				f = append(f, x)
			}
		}
	}
	for len(f) < 256 {
		f = append(f, 0)
	}
	return f
}

// shake128 is what comes out of SHAKE128, as the library tells it.
func shake128(seed []byte, i, j byte) []byte {
	return sha3.SumSHAKE128(slices.Concat(seed, []byte{i, j}), 4096)
}

// slowBit is bit k of b.
func slowBit(b []byte, k int) int {
	x := int(b[k/8])
	for range k % 8 {
		x /= 2
	}
	return x % 2
}

// slowLean goes by the chapter's words, bit by bit.
func slowLean(eta int, b []byte) []int {
	f := make([]int, 256)
	for i := range f {
		x := 3329
		for k := range eta {
			x += slowBit(b, 2*i*eta+k)
			x -= slowBit(b, 2*i*eta+eta+k)
		}
		f[i] = x % 3329
	}
	return f
}

func TestExample(t *testing.T) {
	for _, eta := range []int{2, 3} {
		f, e := Lean(eta, make([]byte, 64*eta))
		if e != nil || !slices.Equal(f, make([]int, 256)) {
			t.Errorf("P6.1: Lean(%d, zeros) is %v, %v", eta, f, e)
		}
	}
}

func TestEvenByTheWords(t *testing.T) {
	places := []byte{0, 1, 2, 3, 4, 127, 128, 254, 255}
	for k, seed := range seeds(8) {
		for _, i := range places {
			for _, j := range places {
				f, e := Even(seed, i, j)
				if want := slowEven(shake128(seed, i, j)); e != nil || !slices.Equal(f, want) {
					t.Fatalf("P6.1: Even of seed %d, %d, %d is %v, %v, not %v", k, i, j, f, e, want)
				}
			}
		}
	}
}

// Of what comes out the numbers about q are there, as the first and as the second of three bytes: 3328 is kept, 3329 is not.
func TestEvenAboutTheModulus(t *testing.T) {
	seen := map[[2]int]int{}
	for n := range 1200 {
		seed, i, j := drawnBytes(n, 32), byte(n), byte(n/256)
		b := shake128(seed, i, j)
		f, e := Even(seed, i, j)
		if want := slowEven(b); e != nil || !slices.Equal(f, want) {
			t.Fatalf("P6.1: Even of seed %d is %v, %v, not %v", n, f, e, want)
		}
		if slices.Max(f) >= 3329 || slices.Min(f) < 0 {
			t.Fatalf("P6.1: Even of seed %d tells numbers that are none", n)
		}
		for k := range 140 { // no more than 280 numbers, so nearly all of them are reached
			for kind, x := range triple(b[3*k], b[3*k+1], b[3*k+2]) {
				seen[[2]int{kind, x}]++
			}
		}
	}
	for kind := range 2 {
		for _, x := range []int{0, 3327, 3328, 3329, 3330, 4095} {
			if seen[[2]int{kind, x}] == 0 {
				t.Errorf("P6.1: the seeds tried never have %d as number %d of three bytes", x, kind)
			}
		}
	}
}

func TestEvenOfPlacesExchanged(t *testing.T) {
	for k, seed := range seeds(5) {
		for _, x := range [][2]byte{{0, 1}, {0, 255}, {1, 2}, {7, 200}, {254, 255}} {
			f, e := Even(seed, x[0], x[1])
			g, e2 := Even(seed, x[1], x[0])
			if e != nil || e2 != nil || slices.Equal(f, g) {
				t.Errorf("P6.1: Even of seed %d, %v, is the same with both exchanged: %v, %v", k, x, e, e2)
			}
			if !slices.Equal(f, slowEven(shake128(seed, x[0], x[1]))) || !slices.Equal(g, slowEven(shake128(seed, x[1], x[0]))) {
				t.Errorf("P6.1: Even of seed %d, %v, or both exchanged, is another poly", k, x)
			}
		}
	}
}

func TestEvenOfOtherSizes(t *testing.T) {
	for _, seed := range noSeeds() {
		for _, at := range []byte{0, 1, 255} {
			if f, e := Even(seed, at, 255-at); !refused(f, e, api.ErrSize) {
				t.Errorf("P6.1: Even of %d bytes: %d numbers, %v", len(seed), len(f), e)
			}
		}
	}
}

// laid are bytes out of which these numbers come, two of each three bytes, then fill again and again.
func laid(fill int, numbers ...int) []byte {
	for len(numbers) < 2*1365 {
		numbers = append(numbers, fill)
	}
	var b []byte
	for k := 0; k < len(numbers); k += 2 {
		x, y := numbers[k], numbers[k+1]
		b = append(b, byte(x%256), byte(x/256+y%16*16), byte(y/16))
	}
	return b
}

// evenOf is even of such bytes, and how many of them it read.
func evenOf(b []byte) ([]int, int) {
	read := 0
	f := even(func(n int) []byte {
		if n < 1 || n > len(b)-read { // no Sponge answers so many
			return nil
		}
		read += n
		return b[read-n : read]
	})
	return f, read
}

// Bytes that no seed is known to bring out: they are laid by hand where Even reads.
func TestEvenOfNumbersByHand(t *testing.T) {
	top := slices.Repeat([]int{4095}, 2*1365)
	putAt := func(numbers []int, at ...int) []int {
		found := slices.Clone(numbers)
		for _, k := range at {
			found[k] = 1000 + k
		}
		return found
	}
	run := make([]int, 300)
	for i := range run {
		run[i] = i + 1
	}
	for name, numbers := range map[string][]int{
		"all zeros": make([]int, 300), "all 3328": slices.Repeat([]int{3328}, 300), "all 3329": slices.Repeat([]int{3329}, 2*1365), "all 4095": top,
		"one behind the other": run, "the first is none": append([]int{3329}, run...), "the second is none": slices.Insert(slices.Clone(run), 1, 3329),
		"the 256th is the first of three bytes": append([]int{3330}, run[:257]...), "255, and none": append(slices.Clone(run[:255]), top[255:]...),
		"the last of all": putAt(top, 2*1365-1), "the last but one": putAt(top, 2*1365-2), "the first of all": putAt(top, 0),
		"about the pieces read": putAt(top, 111, 112, 223, 224, 2687, 2688),
		"256, up to the last":   append(slices.Clone(top[256:]), run[:256]...), "257, up to the last": append(slices.Clone(top[257:]), run[:257]...),
		"255, up to the last": append(slices.Clone(top[255:]), run[:255]...), "first ones only": slices.Repeat([]int{7, 3329}, 1365), "second ones only": slices.Repeat([]int{3329, 7}, 1365),
	} {
		b := laid(4095, numbers...)
		f, read := evenOf(append(b, make([]byte, 300)...))
		if want := slowEven(b); !slices.Equal(f, want) {
			t.Errorf("P6.1: even, %s, is %v, not %v", name, f, want)
		}
		if read > 4095 {
			t.Errorf("P6.1: even, %s, looks at %d bytes", name, read)
		}
	}
}

func TestLeanByHand(t *testing.T) {
	for _, x := range []struct {
		eta  int
		head []byte // the others are 0
		want []int  // the others are 0
	}{
		{2, []byte{0b0000_0001}, []int{1}},
		{2, []byte{0b0000_0011}, []int{2}},
		{2, []byte{0b0000_0100}, []int{3328}},
		{2, []byte{0b0000_1100}, []int{3327}},
		{2, []byte{0b0000_1111}, []int{0}},
		{2, []byte{0b0000_0110}, []int{0}},
		{2, []byte{0b0000_1110}, []int{3328}},
		{2, []byte{0b1100_0000}, []int{0, 3327}},
		{2, []byte{0b0011_1100, 0b1000_0010}, []int{3327, 2, 1, 3328}},
		{3, []byte{0b0000_0111}, []int{3}},
		{3, []byte{0b0011_1000}, []int{3326}},
		{3, []byte{0b0011_1111}, []int{0}},
		{3, []byte{0b1100_0000, 0b0000_0001}, []int{0, 3}},
		{3, []byte{0, 0b0000_1110}, []int{0, 3326}},
		{3, []byte{0, 0b1111_0000, 0b1110_0011}, []int{0, 0, 0, 3326}},
		{3, []byte{0, 0b0111_0000, 0b1110_0000}, []int{0, 0, 3, 3326}},
	} {
		b := append(slices.Clone(x.head), make([]byte, 64*x.eta-len(x.head))...)
		want := append(slices.Clone(x.want), make([]int, 256-len(x.want))...)
		if f, e := Lean(x.eta, b); e != nil || !slices.Equal(f, want) {
			t.Errorf("P6.1: Lean(%d, %v, zeros) is %v, %v", x.eta, x.head, f, e)
		}
	}
}

// One bit is one more or one less of one number, each at its place; so is one bit that is 0 among ones.
func TestLeanBitByBit(t *testing.T) {
	for _, eta := range []int{2, 3} {
		for k := range 512 * eta {
			one, rest := make([]byte, 64*eta), slices.Repeat([]byte{255}, 64*eta)
			one[k/8] |= 1 << (k % 8)
			rest[k/8] ^= 1 << (k % 8)
			up, down := make([]int, 256), make([]int, 256)
			up[k/(2*eta)], down[k/(2*eta)] = 1, 3328
			if k/eta%2 == 1 {
				up, down = down, up
			}
			if f, e := Lean(eta, one); e != nil || !slices.Equal(f, up) {
				t.Fatalf("P6.1: Lean(%d) of bit %d alone is %v, %v", eta, k, f, e)
			}
			if f, e := Lean(eta, rest); e != nil || !slices.Equal(f, down) {
				t.Fatalf("P6.1: Lean(%d) of all bits but %d is %v, %v", eta, k, f, e)
			}
		}
	}
}

func TestLeanByTheWords(t *testing.T) {
	for _, eta := range []int{2, 3} {
		seen := map[int]int{}
		for k := range 100 {
			b := drawnBytes(k, 64*eta)
			f, e := Lean(eta, b)
			if want := slowLean(eta, b); e != nil || !slices.Equal(f, want) {
				t.Fatalf("P6.1: Lean(%d) of bytes %d is %v, %v, not %v", eta, k, f, e, want)
			}
			for _, x := range f {
				seen[x]++
			}
		}
		for x := -eta; x <= eta; x++ {
			if seen[(x+3329)%3329] == 0 {
				t.Errorf("P6.1: the bytes tried never bring %d out of Lean(%d)", x, eta)
			}
		}
		if len(seen) != 2*eta+1 {
			t.Errorf("P6.1: Lean(%d) tells %d numbers, other ones among them", eta, len(seen))
		}
	}
}

// All bytes alike, each of them once: ones are told as zeros are, since as many are taken away.
func TestLeanOfBytesAlike(t *testing.T) {
	for _, eta := range []int{2, 3} {
		for c := range 256 {
			b := slices.Repeat([]byte{byte(c)}, 64*eta)
			if f, e := Lean(eta, b); e != nil || !slices.Equal(f, slowLean(eta, b)) {
				t.Errorf("P6.1: Lean(%d) of bytes %d is %v, %v", eta, c, f, e)
			}
		}
		if f, e := Lean(eta, slices.Repeat([]byte{255}, 64*eta)); e != nil || !slices.Equal(f, make([]int, 256)) {
			t.Errorf("P6.1: Lean(%d) of bytes 255 is %v, %v", eta, f, e)
		}
	}
}

func TestLeanOfOtherEtas(t *testing.T) {
	for _, eta := range noEtas() {
		for _, n := range []int{0, 1, 32, 63, 64, 65, 127, 128, 129, 191, 192, 193, 256, 320} {
			if f, e := Lean(eta, drawnBytes(n, n)); !refused(f, e, api.ErrArg) {
				t.Errorf("P6.1: Lean(%d) of %d bytes: %d numbers, %v", eta, n, len(f), e)
			}
		}
		if f, e := Lean(eta, nil); !refused(f, e, api.ErrArg) {
			t.Errorf("P6.1: Lean(%d) of none: %d numbers, %v", eta, len(f), e)
		}
	}
}

func TestLeanOfOtherSizes(t *testing.T) {
	for _, eta := range []int{2, 3} {
		lists := [][]byte{nil, {}, drawnBytes(1, 64*eta)[:0], drawnBytes(1, 64*eta)[:64*eta-1], drawnBytes(1, 300)[:64*eta+1]}
		for _, n := range []int{1, 32, 64, 64*eta - 2, 64*eta - 1, 64*eta + 1, 64*eta + 2, 64 * (5 - eta), 128 * eta, 256, 256 + 64*eta, 1<<16 + 64*eta} {
			lists = append(lists, drawnBytes(n, n))
		}
		for _, b := range lists {
			if f, e := Lean(eta, b); !refused(f, e, api.ErrSize) {
				t.Errorf("P6.1: Lean(%d) of %d bytes: %d numbers, %v", eta, len(b), len(f), e)
			}
		}
	}
}

func TestFromIsLeanOfShake256(t *testing.T) {
	for k, seed := range seeds(10) {
		for _, eta := range []int{2, 3} {
			for _, n := range []byte{0, 1, 2, 3, 7, 8, 127, 128, 254, 255} {
				f, e := From(eta, seed, n)
				want, e2 := Lean(eta, sponge.Shake256(64*eta, seed, []byte{n}))
				if e != nil || e2 != nil || len(f) != 256 || !slices.Equal(f, want) {
					t.Fatalf("P6.1: From(%d, seed %d, %d) is %v, %v, not %v, %v", eta, k, n, f, e, want, e2)
				}
				told := sha3.SumSHAKE256(slices.Concat(seed, []byte{n}), 64*eta)
				if !slices.Equal(f, slowLean(eta, told)) {
					t.Fatalf("P6.1: From(%d, seed %d, %d) is not what the bytes of SHAKE256 tell", eta, k, n)
				}
			}
		}
	}
}

func TestFromOfOtherEtas(t *testing.T) {
	for _, eta := range noEtas() {
		for _, seed := range append(noSeeds(), drawnBytes(1, 32)) {
			for _, n := range []byte{0, 255} {
				if f, e := From(eta, seed, n); !refused(f, e, api.ErrArg) {
					t.Errorf("P6.1: From(%d) of %d bytes: %d numbers, %v", eta, len(seed), len(f), e)
				}
			}
		}
	}
}

func TestFromOfOtherSizes(t *testing.T) {
	for _, eta := range []int{2, 3} {
		for _, seed := range noSeeds() {
			for _, n := range []byte{0, 255} {
				if f, e := From(eta, seed, n); !refused(f, e, api.ErrSize) {
					t.Errorf("P6.1: From(%d) of %d bytes: %d numbers, %v", eta, len(seed), len(f), e)
				}
			}
		}
	}
}

// What stands in spare room is none of the bytes.
func TestSpareRoomIsNotCounted(t *testing.T) {
	for _, fill := range []byte{0, 77, 255} {
		room := append(drawnBytes(1, 192), slices.Repeat([]byte{fill}, 64)...)
		f, e := Even(room[:32], 1, 2)
		g, e2 := Lean(2, room[:128])
		h, e3 := From(3, room[:32], 3)
		if e != nil || !slices.Equal(f, slowEven(shake128(drawnBytes(1, 192)[:32], 1, 2))) {
			t.Errorf("P6.1: Even of a seed with spare room: %v", e)
		}
		if e2 != nil || !slices.Equal(g, slowLean(2, drawnBytes(1, 192)[:128])) {
			t.Errorf("P6.1: Lean of bytes with spare room: %v", e2)
		}
		want := slowLean(3, sha3.SumSHAKE256(append(drawnBytes(1, 192)[:32:32], 3), 192))
		if e3 != nil || !slices.Equal(h, want) {
			t.Errorf("P6.1: From of a seed with spare room: %v", e3)
		}
	}
}

// Each error wraps its Fault, and tells it in words of its own.
func TestErrorsAreWrapped(t *testing.T) {
	_, even := Even(nil, 0, 0)
	_, leanEta := Lean(4, nil)
	_, leanSize := Lean(2, nil)
	_, fromEta := From(4, nil, 0)
	_, fromSize := From(2, nil, 0)
	for _, x := range []struct {
		e    error
		want api.Errno
	}{{even, api.ErrSize}, {leanEta, api.ErrArg}, {leanSize, api.ErrSize}, {fromEta, api.ErrArg}, {fromSize, api.ErrSize}} {
		var fault *api.Fault
		if !errors.As(x.e, &fault) || fault.Code != x.want || !errors.Is(x.e, x.want) {
			t.Errorf("P6.1: %v is no Fault of %v", x.e, x.want)
			continue
		}
		if inner := errors.Unwrap(x.e); inner == nil || !errors.Is(inner, fault) {
			t.Errorf("P6.1: %v does not wrap its Fault", x.e)
		}
		if x.e.Error() == "" || x.e.Error() == fault.Error() {
			t.Errorf("P6.1: %v tells no more than its Fault", x.e)
		}
		for other := api.OK; other <= api.ErrWait; other++ {
			if other != x.want && errors.Is(x.e, other) {
				t.Errorf("P6.1: %v is told to be %v too", x.e, other)
			}
		}
	}
}

// A Fault that is written over stays what other answers have.
func TestErrorsAreNew(t *testing.T) {
	for name, call := range map[string]func() error{
		"Even": func() error { _, e := Even(nil, 0, 0); return e },
		"Lean": func() error { _, e := Lean(2, nil); return e },
		"From": func() error { _, e := From(3, nil, 0); return e },
	} {
		var fault *api.Fault
		first, kept := call(), call()
		if errors.As(first, &fault) {
			fault.Code = api.ErrWait
		}
		if !is(kept, api.ErrSize) || !is(call(), api.ErrSize) {
			t.Errorf("R4: errors of %s share memory", name)
		}
	}
}

// calls are all that take bytes in and answer a poly, with the sizes that they take.
func calls() map[string]struct {
	size int
	ask  func(b []byte) ([]int, error)
} {
	type call = struct {
		size int
		ask  func(b []byte) ([]int, error)
	}
	return map[string]call{
		"Even":    {32, func(b []byte) ([]int, error) { return Even(b, 3, 250) }},
		"Lean(2)": {128, func(b []byte) ([]int, error) { return Lean(2, b) }},
		"Lean(3)": {192, func(b []byte) ([]int, error) { return Lean(3, b) }},
		"Lean(4)": {256, func(b []byte) ([]int, error) { return Lean(4, b) }},
		"From(2)": {32, func(b []byte) ([]int, error) { return From(2, b, 9) }},
		"From(3)": {32, func(b []byte) ([]int, error) { return From(3, b, 9) }},
		"From(1)": {32, func(b []byte) ([]int, error) { return From(1, b, 9) }},
	}
}

func TestWhatIsHandedInStays(t *testing.T) {
	for name, call := range calls() {
		for _, n := range []int{0, call.size - 1, call.size, call.size + 1} {
			room := append(drawnBytes(n, n), slices.Repeat([]byte{77}, 300)...)
			had := slices.Clone(room)
			f, _ := call.ask(room[:n])
			clear(f[:cap(f)])
			if !slices.Equal(room, had) {
				t.Errorf("R4: %s of %d bytes changes them, their spare room, or shares memory with them", name, n)
			}
		}
	}
}

func TestAskedAgain(t *testing.T) {
	for name, call := range calls() {
		for _, n := range []int{call.size, call.size - 1, call.size} {
			b := drawnBytes(n, n)
			f, e := call.ask(b)
			want := slices.Clone(f)
			g, e2 := call.ask(b)
			if !slices.Equal(g, want) || api.Code(e) != api.Code(e2) {
				t.Errorf("R5: %s of %d bytes tells another answer the second time", name, n)
			}
			clear(g[:cap(g)])
			clear(b)
			if !slices.Equal(f, want) {
				t.Errorf("R4: what %s of %d bytes told is changed later", name, n)
			}
		}
	}
}

func TestManyAtOnce(t *testing.T) {
	seed, b := drawnBytes(1, 32), drawnBytes(2, 192)
	even, lean := slowEven(shake128(seed, 1, 2)), slowLean(3, b)
	from := slowLean(2, sha3.SumSHAKE256(append(drawnBytes(1, 32), 5), 128))
	var all sync.WaitGroup
	for range 8 {
		all.Go(func() {
			for range 50 {
				f, e := Even(seed, 1, 2)
				g, e2 := Lean(3, b)
				h, e3 := From(2, seed, 5)
				if e != nil || e2 != nil || e3 != nil || !slices.Equal(f, even) || !slices.Equal(g, lean) || !slices.Equal(h, from) {
					t.Error("R5: a call told another answer beside other calls")
				}
			}
		})
	}
	all.Wait()
}

func BenchmarkEven(b *testing.B) {
	seed := drawnBytes(1, 32)
	for b.Loop() {
		Even(seed, 0, 1)
	}
}

func BenchmarkFrom(b *testing.B) {
	seed := drawnBytes(1, 32)
	for b.Loop() {
		From(3, seed, 1)
	}
}
