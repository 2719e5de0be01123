package nonces

import (
	"errors"
	"math"
	"math/rand/v2"
	"slices"
	"testing"

	"chatelaine/api"
)

// all is a used of which each bit is 1.
const all uint64 = math.MaxUint64

// is tells whether an error is a Fault with that Errno, or none of OK.
func is(e error, want api.Errno) bool {
	if want == api.OK {
		return e == nil
	}
	var f *api.Fault
	return errors.As(e, &f) && f.Code == want && errors.Is(e, want) && api.Code(e) == want
}

// window is a high and a used.
type window struct {
	high int
	used uint64
}

// slowMay goes by the chapter's words, bit by bit.
func slowMay(w window) bool {
	if w.high < 0 || w.high > 1<<40 {
		return false
	}
	if w.high == 0 {
		return w.used == 0
	}
	may := w.used%2 == 1
	for i, left := 0, w.used; i < 64; i, left = i+1, left/2 {
		may = may && (i < w.high || left%2 == 0)
	}
	return may
}

// past is a set of numbers that were used.
type past map[int]bool

// past are the numbers that a window tells, one that may be.
func (w window) past() past {
	p := past{}
	for i, left := 0, w.used; i < 64; i, left = i+1, left/2 {
		if left%2 == 1 {
			p[w.high-i] = true
		}
	}
	return p
}

// window is what is told of numbers that were used.
func (p past) window() window {
	w := window{}
	for n := range p {
		w.high = max(w.high, n)
	}
	for i := 63; i >= 0; i-- {
		w.used *= 2
		if p[w.high-i] {
			w.used++
		}
	}
	return w
}

// takes tells whether a number may be used behind these.
func (p past) takes(n int) bool {
	return 1 <= n && n <= 1<<40 && !p[n] && p.window().high-n < 64
}

// with is p and n.
func (p past) with(n int) past {
	more := past{n: true}
	for x := range p {
		more[x] = true
	}
	return more
}

// slowUse goes by the chapter's words.
func slowUse(w window, n int) (window, api.Errno) {
	if !slowMay(w) {
		return window{}, api.ErrArg
	}
	if !w.past().takes(n) {
		return window{}, api.ErrNonce
	}
	return w.past().with(n).window(), api.OK
}

// checkUse holds Use and Fresh against what is to be told, and tells the window behind.
func checkUse(t *testing.T, w window, n int, want window, code api.Errno) window {
	t.Helper()
	high, used, e := Use(w.high, w.used, n)
	if got := (window{high, used}); !is(e, code) || got != want {
		t.Errorf("P18.1: Use(%d, %b, %d) is %d, %b, %v; not %d, %b, %v", w.high, w.used, n, high, used, e, want.high, want.used, code)
	}
	if fresh := Fresh(w.high, w.used, n); fresh != (code == api.OK) {
		t.Errorf("P18.1: Fresh(%d, %b, %d) is %v", w.high, w.used, n, fresh)
	}
	if code == api.OK && !May(high, used) {
		t.Errorf("P18.1: Use(%d, %b, %d) answers a window that may not be", w.high, w.used, n)
	}
	return window{high, used}
}

// checkSlow holds Use and Fresh of w against the slow answer.
func checkSlow(t *testing.T, w window, n int) {
	t.Helper()
	want, code := slowUse(w, n)
	checkUse(t, w, n, want, code)
}

// numbers are numbers at both sides of each bound, those that a cut to fewer bits would make into others, and the ends of all.
func numbers() []int {
	found := []int{math.MinInt, math.MinInt + 1, math.MinInt + 63, math.MinInt + 64, math.MaxInt - 64, math.MaxInt - 63, math.MaxInt - 1, math.MaxInt}
	for _, about := range []int{-1 << 40, -1 << 32, -1 << 16, -1 << 8, -128, -64, 0, 64, 128, 1 << 8, 1 << 16, 1 << 31, 1 << 32, 1<<32 + 64, 1 << 39, 1<<40 - 64, 1 << 40, 1<<40 + 64, 1 << 41, 1 << 62} {
		for d := -2; d <= 2; d++ {
			found = append(found, about+d)
		}
	}
	slices.Sort(found)
	return slices.Compact(found)
}

// useds are bits that may be said of some number: single ones, runs, all, none, with bit 0 and without.
func useds() []uint64 {
	found := []uint64{0, all, 0x5555555555555555, 0xAAAAAAAAAAAAAAAA, 1<<32 - 1, all - 1<<32 + 1, 0xF00F00F00F00F00F}
	for i := range 64 {
		found = append(found, 1<<i, 1<<i|1, 1<<i-1, all<<i, all<<i|1, all^1<<i)
	}
	slices.Sort(found)
	return slices.Compact(found)
}

// around are numbers inside the window of high, at its ends and beyond them, and those of numbers.
func around(high int) []int {
	found := numbers()
	for _, d := range []int{-130, -66, -65, -64, -63, -62, -33, -32, -31, -8, -2, -1, 0, 1, 2, 8, 31, 32, 33, 62, 63, 64, 65, 66, 130, 256} {
		found = append(found, high+d)
	}
	return found
}

// several are windows that may be.
func several() []window {
	found := []window{{0, 0}, {1, 1}, {2, 1}, {2, 3}, {3, 5}, {63, all >> 1}, {64, all}, {65, all}, {1 << 40, all}, {1 << 40, 1}}
	for _, high := range []int{4, 5, 8, 31, 32, 33, 62, 63, 64, 65, 66, 127, 128, 1000, 1 << 32, 1<<32 + 1, 1<<40 - 64, 1<<40 - 1, 1 << 40} {
		for _, used := range []uint64{0, 2, 6, 1 << 30, 1 << 31, 1 << 32, 3 << 61, 1 << 62, 1 << 63, 0x5555555555555555, all, all ^ 6, all >> 1} {
			used |= 1
			if high < 64 {
				used &= 1<<high - 1
			}
			found = append(found, window{high, used})
		}
	}
	return found
}

// wrong are windows that may not be.
func wrong() []window {
	found := []window{{0, 1}, {0, 2}, {0, 1 << 63}, {0, all}, {1, 0}, {1, 2}, {1, 3}, {1, 1<<63 | 1}, {2, 2}, {2, 5}, {63, 1<<63 | 1}, {63, all}, {63, 0}, {64, 0}, {64, all - 1}, {1000, 0}, {1000, 2}}
	for _, high := range []int{math.MinInt, -1 << 40, -1000, -64, -63, -2, -1, 1<<40 + 1, 1<<40 + 64, 1 << 41, math.MaxInt - 63, math.MaxInt} {
		found = append(found, window{high, 0}, window{high, 1}, window{high, all})
	}
	return found
}

func TestLimits(t *testing.T) {
	if api.Window != 64 || api.MaxNonce != 1<<40 {
		t.Fatal("the limits are other ones")
	}
	for _, w := range several() {
		if !slowMay(w) || w.past().window() != w {
			t.Fatalf("%d, %b may not be", w.high, w.used)
		}
	}
	for _, w := range wrong() {
		if slowMay(w) {
			t.Fatalf("%d, %b may be", w.high, w.used)
		}
	}
}

func TestMayOfEachHigh(t *testing.T) {
	for _, high := range numbers() {
		if may := high >= 1 && high <= 1<<40; May(high, 1) != may {
			t.Errorf("P18.1: May(%d, 1) is not %v", high, may)
		}
		if may := high >= 64 && high <= 1<<40; May(high, all) != may {
			t.Errorf("P18.1: May(%d, all) is not %v", high, may)
		}
		if May(high, 0) != (high == 0) {
			t.Errorf("P18.1: May(%d, 0) is not %v", high, high == 0)
		}
		for _, used := range useds() {
			if may := slowMay(window{high, used}); May(high, used) != may {
				t.Errorf("P18.1: May(%d, %b) is not %v", high, used, may)
			}
		}
	}
}

func TestMayOfNoHigh(t *testing.T) {
	if !May(0, 0) {
		t.Error("P18.1: May(0, 0) is false")
	}
	for _, used := range useds() {
		if used != 0 && May(0, used) {
			t.Errorf("P18.1: May(0, %b) is true", used)
		}
	}
}

func TestMayWithoutBitZero(t *testing.T) {
	for _, high := range []int{1, 2, 3, 31, 32, 62, 63, 64, 65, 1000, 1 << 32, 1<<40 - 1, 1 << 40} {
		for _, used := range useds() {
			if May(high, used&^1) {
				t.Errorf("P18.1: May(%d, %b) is true", high, used&^1)
			}
		}
	}
}

func TestMayOfEachBit(t *testing.T) {
	for high := 1; high <= 70; high++ {
		full := uint64(0)
		for i := range 64 {
			used := uint64(1) | 1<<i
			if May(high, used) != (i < high) {
				t.Errorf("P18.1: May(%d, bits 0 and %d) is not %v", high, i, i < high)
			}
			if i < high {
				full |= used
			} else if May(high, full|used) {
				t.Errorf("P18.1: May(%d, all, and bit %d) is true", high, i)
			}
		}
		if !May(high, full) {
			t.Errorf("P18.1: May(%d, %b) is false", high, full)
		}
	}
}

func TestMayOfSmallOnes(t *testing.T) {
	for high := -3; high <= 15; high++ {
		for used := range uint64(1 << 16) {
			if w := (window{high, used}); May(high, used) != slowMay(w) {
				t.Fatalf("P18.1: May(%d, %b) is not %v", high, used, slowMay(w))
			}
		}
	}
}

func TestByHand(t *testing.T) {
	for _, x := range []struct {
		w    window
		n    int
		want window
		code api.Errno
	}{
		{window{0, 0}, 5, window{5, 1}, api.OK},
		{window{5, 1}, 5, window{}, api.ErrNonce},
		{window{5, 1}, 4, window{5, 0b11}, api.OK},
		{window{5, 0b11}, 1, window{5, 0b10011}, api.OK},
		{window{5, 0b11}, 0, window{}, api.ErrNonce},
		{window{5, 0b11}, 6, window{6, 0b111}, api.OK},
		{window{5, 0b11}, 7, window{7, 0b1101}, api.OK},
		{window{63, 1}, 1, window{63, 1<<62 | 1}, api.OK},
		{window{64, 1}, 1, window{64, 1<<63 | 1}, api.OK},
		{window{65, 1}, 1, window{}, api.ErrNonce},
		{window{65, 1}, 2, window{65, 1<<63 | 1}, api.OK},
		{window{1000, 1}, 937, window{1000, 1<<63 | 1}, api.OK},
		{window{1000, 1}, 936, window{}, api.ErrNonce},
		{window{1000, all}, 1001, window{1001, all}, api.OK},
		{window{1000, all}, 1002, window{1002, all - 2}, api.OK},
		{window{1000, all}, 1063, window{1063, 1<<63 | 1}, api.OK},
		{window{1000, all}, 1064, window{1064, 1}, api.OK},
		{window{1000, all}, 1065, window{1065, 1}, api.OK},
		{window{1000, all}, 1 << 40, window{1 << 40, 1}, api.OK},
		{window{1000, all}, 1<<40 + 1, window{}, api.ErrNonce},
		{window{1<<40 - 1, 0b101}, 1 << 40, window{1 << 40, 0b1011}, api.OK},
		{window{1 << 40, 1}, 1<<40 - 63, window{1 << 40, 1<<63 | 1}, api.OK},
		{window{1 << 40, 1}, 1<<40 - 64, window{}, api.ErrNonce},
		{window{5, 0b10}, 6, window{}, api.ErrArg},
		{window{5, 1 << 5}, 6, window{}, api.ErrArg},
		{window{0, 1}, 1, window{}, api.ErrArg},
		{window{-1, 0}, 1, window{}, api.ErrArg},
		{window{1<<40 + 1, 1}, 1<<40 + 2, window{}, api.ErrArg},
	} {
		checkUse(t, x.w, x.n, x.want, x.code)
	}
}

// Each number from far above a window to far below it is taken or refused as the slow answer says.
func TestEachWindow(t *testing.T) {
	for _, w := range several() {
		for _, n := range around(w.high) {
			checkSlow(t, w, n)
		}
		for n := max(w.high-70, -3); n <= w.high+70; n++ {
			checkSlow(t, w, n)
		}
	}
}

// What may not be is ErrArg, whatever the number.
func TestWrongWindows(t *testing.T) {
	for _, w := range wrong() {
		for _, n := range around(w.high) {
			checkUse(t, w, n, window{}, api.ErrArg)
		}
	}
}

func TestNumbersThatMayNotBe(t *testing.T) {
	for _, w := range several() {
		for _, n := range numbers() {
			if n < 1 || n > 1<<40 {
				checkUse(t, w, n, window{}, api.ErrNonce)
			}
		}
	}
}

func TestFirstOfAll(t *testing.T) {
	for _, n := range numbers() {
		if n >= 1 && n <= 1<<40 {
			checkUse(t, window{}, n, window{n, 1}, api.OK)
		}
	}
}

// Inside the window nothing but a number's own bit changes.
func TestInside(t *testing.T) {
	for _, high := range []int{64, 65, 1000, 1 << 32, 1 << 40} {
		for i := range 64 {
			for _, used := range useds() {
				used |= 1
				w, bit := window{high, used}, uint64(1)<<i
				if used&bit == 0 {
					checkUse(t, w, high-i, window{high, used + bit}, api.OK)
				} else {
					checkUse(t, w, high-i, window{}, api.ErrNonce)
				}
			}
		}
	}
}

// Of a window that moves up by d the last d numbers fall out, and the others stand d further.
func TestAbove(t *testing.T) {
	for _, high := range []int{64, 1000, 1 << 32, 1<<40 - 200} {
		for d := 1; d <= 200; d++ {
			for _, used := range useds() {
				used |= 1
				want := uint64(1)
				for i := d; i < 64; i++ {
					want += used >> (i - d) % 2 << i
				}
				checkUse(t, window{high, used}, high+d, window{high + d, want}, api.OK)
			}
		}
	}
}

// A number that falls out of the window is too old for good, whether it was used or not.
func TestTooOld(t *testing.T) {
	for _, n := range []int{1, 2, 63, 64, 65, 1000, 1 << 32, 1<<40 - 300} {
		for _, first := range []int{n, n + 1} {
			for w := (window{first, 1}); w.high < n+300; w = (window{w.high + 1, w.used<<1 | 1}) {
				if d := w.high - n; first == n || d >= 64 {
					checkUse(t, w, n, window{}, api.ErrNonce)
				} else {
					checkUse(t, w, n, window{w.high, w.used + 1<<d}, api.OK)
				}
			}
		}
	}
}

// All 1,024 sets of numbers from 1 to 10 are reached, each one number at a time, and each is told by its own window.
func TestEverySet(t *testing.T) {
	reached := map[window]bool{}
	var from func(w window)
	from = func(w window) {
		if reached[w] {
			return
		}
		reached[w] = true
		for n := -1; n <= 10; n++ {
			want, code := slowUse(w, n)
			if got := checkUse(t, w, n, want, code); code == api.OK {
				from(got)
			}
		}
	}
	from(window{})
	if len(reached) != 1<<10 {
		t.Errorf("P18.1: of the numbers from 1 to 10 come %d windows", len(reached))
	}
}

// rows are numbers in the order in which they are asked for.
func rows() map[string][]int {
	found := map[string][]int{}
	for i := range 300 {
		found["upwards"] = append(found["upwards"], i+1)
		found["backwards"] = append(found["backwards"], 300-i)
		found["each twice"] = append(found["each twice"], i+1, i+1)
		found["each second, those between behind it"] = append(found["each second, those between behind it"], 2*i+60, 2*i+1)
		found["by 63"] = append(found["by 63"], 63*i, 63*i-63)
		found["by 64"] = append(found["by 64"], 64*i, 64*i-64, 64*i-63)
		found["by 65"] = append(found["by 65"], 65*i, 65*i-65, 65*i-64, 65*i-63)
		found["far jumps"] = append(found["far jumps"], i*i*i*40_000, i*i*i*40_000-i%70, i*i*i*40_000-63)
		found["up to the last"] = append(found["up to the last"], 1<<40-295+i, 1<<40-295+i-i%67)
		found["low ones between high ones"] = append(found["low ones between high ones"], 1000+i, i, 950+i)
	}
	return found
}

// checkRow asks for a row of numbers, and holds what is answered against a set of all that were used.
func checkRow(t *testing.T, name string, row []int) {
	t.Helper()
	w, p := window{}, past{}
	for i, n := range row {
		takes := p.takes(n)
		high, used, e := Use(w.high, w.used, n)
		if !takes {
			if !is(e, api.ErrNonce) || high != 0 || used != 0 || Fresh(w.high, w.used, n) {
				t.Fatalf("P18.1: %s: the %d-th number, %d, is not refused: %v", name, i, n, e)
			}
			continue
		}
		p[n] = true
		if e != nil || (window{high, used}) != p.window() || !May(high, used) || !Fresh(w.high, w.used, n) {
			t.Fatalf("P18.1: %s: the %d-th number, %d, is not taken: %d, %b, %v", name, i, n, high, used, e)
		}
		w = window{high, used}
		if Fresh(w.high, w.used, n) {
			t.Fatalf("P18.1: %s: the %d-th number, %d, may be used again", name, i, n)
		}
	}
}

func TestRows(t *testing.T) {
	for name, row := range rows() {
		checkRow(t, name, row)
		back := slices.Clone(row)
		slices.Reverse(back)
		checkRow(t, name+", from the end", back)
		checkRow(t, name+", and again", slices.Concat(row[:100], row))
	}
}

func TestDrawnRows(t *testing.T) {
	from := rand.New(rand.NewPCG(18, 1))
	for range 200 {
		var row []int
		near, wide := 1+from.IntN(1<<from.IntN(40)), 1+from.IntN(200)
		for range 200 {
			if from.IntN(20) == 0 {
				near += from.IntN(300) - 100
			}
			row = append(row, near+from.IntN(wide)-wide/2)
		}
		checkRow(t, "a drawn row", row)
	}
}

func TestDrawnWindows(t *testing.T) {
	from := rand.New(rand.NewPCG(18, 2))
	for range 20_000 {
		w := window{from.IntN(1 << from.IntN(42)), from.Uint64() | 1}
		if from.IntN(8) > 0 {
			w.used &= 1<<min(w.high, 64) - 1
		}
		if May(w.high, w.used) != slowMay(w) {
			t.Fatalf("P18.1: May(%d, %b) is not %v", w.high, w.used, slowMay(w))
		}
		checkSlow(t, w, w.high+from.IntN(200)-100)
	}
}

// Two numbers make one window in either order, unless one is too old behind the other.
func TestEitherOrder(t *testing.T) {
	for _, w := range several() {
		near := []int{w.high - 63, w.high - 62, w.high - 32, w.high - 2, w.high - 1, w.high + 1, w.high + 2, w.high + 31, w.high + 62, w.high + 63, w.high + 64, w.high + 65, w.high + 200}
		for _, a := range near {
			for _, b := range near {
				checkBoth(t, w, a, b)
			}
		}
	}
}

// checkBoth uses a and b in either order: where both are Fresh at first, the lower one is not so any more behind a higher one that is Window or more above it.
func checkBoth(t *testing.T, w window, a, b int) {
	t.Helper()
	if a >= b || !Fresh(w.high, w.used, a) || !Fresh(w.high, w.used, b) {
		return
	}
	high, used, _ := Use(w.high, w.used, a)
	high, used, e := Use(high, used, b)
	if e != nil {
		t.Errorf("P18.1: of %d, %b number %d is not taken behind %d: %v", w.high, w.used, b, a, e)
	}
	otherHigh, otherUsed, _ := Use(w.high, w.used, b)
	otherHigh, otherUsed, e = Use(otherHigh, otherUsed, a)
	if max(w.high, b)-a >= 64 {
		if !is(e, api.ErrNonce) {
			t.Errorf("P18.1: of %d, %b number %d is taken behind %d: %v", w.high, w.used, a, b, e)
		}
	} else if e != nil || otherHigh != high || otherUsed != used {
		t.Errorf("P18.1: of %d, %b numbers %d and %d make another window in the other order", w.high, w.used, a, b)
	}
}
