package lay

import (
	"bytes"
	"math"
	"math/rand"
	"slices"
	"strconv"
	"testing"

	"chatelaine/api"
)

// zeros are so many polys of zeros.
func zeros(k int) [][]int {
	h := make([][]int, k)
	for i := range h {
		h[i] = filled(0)
	}
	return h
}

// ones are a set's polys, with ones at the places that are named, each by its number in all of them.
func (p row) ones(places ...int) [][]int {
	h := zeros(p.of.K)
	for _, at := range places {
		h[at/count][at%count] = 1
	}
	return h
}

// run are so many places, step by step from first on.
func run(first int, many int, step int) []int {
	found := make([]int, many)
	for i := range found {
		found[i] = first + i*step
	}
	return found
}

// drawnHints have so many ones, the same for the same seed.
func (p row) drawnHints(seed int, many int) [][]int {
	return p.ones(rand.New(rand.NewSource(int64(seed))).Perm(p.of.K * count)[:many]...)
}

// rightHints are those that may be laid: no ones, one at each end of each poly, omega of them in one poly or in all.
func (p row) rightHints() [][][]int {
	all, omega := p.of.K*count, p.of.Omega
	found := [][][]int{p.ones(), p.ones(0, all-1), p.ones(run(0, omega, 1)...), p.ones(run(all-omega, omega, 1)...), p.ones(run(100, omega, (all-100)/omega)...)}
	for i := range p.of.K {
		first := i * count
		found = append(found, p.ones(first), p.ones(first+count-1), p.ones(first, first+count-1), p.ones(first+1), p.ones(first+17, first+100, first+200),
			p.ones(run(first, omega, 1)...), p.ones(run(first+count-omega, omega, 1)...), p.ones(run(first+3, omega, 2)...), p.ones(run(first, omega-1, 1)...))
	}
	for many := range omega + 1 {
		found = append(found, p.drawnHints(many, many), p.drawnHints(1000+many, many))
	}
	return found
}

// slowHints goes by the chapter's words, of hints that may be laid.
func (p row) slowHints(h [][]int) []byte {
	var places, ends []byte
	for _, f := range h {
		for place, x := range f {
			if x == 1 {
				places = append(places, byte(place))
			}
		}
		ends = append(ends, byte(len(places)))
	}
	return slices.Concat(places, make([]byte, p.of.Omega-len(places)), ends)
}

// slowUnhint goes by the chapter's words, of as many bytes as are right: it takes for h what the bytes may tell at all, and looks whether these are its bytes.
func (p row) slowUnhint(b []byte) ([][]int, bool) {
	h, from := zeros(p.of.K), 0
	for i := range h {
		end := min(int(b[p.of.Omega+i]), p.of.Omega)
		for ; from < end; from++ {
			h[i][b[from]] = 1
		}
	}
	return h, bytes.Equal(p.slowHints(h), b)
}

func sameLists(a, b [][]int) bool { return slices.EqualFunc(a, b, slices.Equal) }

func TestHintsByHand(t *testing.T) {
	b, e := Hints(1, rows()[0].ones(3, 255, 512, 513, 768+7))
	want := slices.Concat([]byte{3, 255, 0, 1, 7}, make([]byte, 75), []byte{2, 2, 4, 5})
	if e != nil || !bytes.Equal(b, want) {
		t.Errorf("P11.3: Hints(1) is %v, %v", b, e)
	}
	if h, e := Unhint(1, want); e != nil || !sameLists(h, rows()[0].ones(3, 255, 512, 513, 768+7)) {
		t.Errorf("P11.3: Unhint(1) of what was laid by hand is another one: %v", e)
	}
}

func TestHintsThereAndBack(t *testing.T) {
	for _, p := range rows() {
		for i, h := range p.rightHints() {
			want := p.slowHints(h)
			b, e := Hints(p.set, h)
			if e != nil || len(b) != p.of.Omega+p.of.K || !bytes.Equal(b, want) {
				t.Errorf("P11.3: Hints(%d) of the %d-th is %v, %v", p.set, i, b, e)
			}
			if back, e := Unhint(p.set, want); e != nil || !sameLists(back, h) {
				t.Errorf("P11.3: Unhint(%d) of the %d-th is another one: %v", p.set, i, e)
			}
		}
	}
}

func TestHintsOfEachPlace(t *testing.T) {
	for _, p := range rows() {
		for at := range p.of.K * count {
			h := p.ones(at)
			want := make([]byte, p.of.Omega+p.of.K)
			want[0] = byte(at % count)
			for i := at / count; i < p.of.K; i++ {
				want[p.of.Omega+i] = 1
			}
			if b, e := Hints(p.set, h); e != nil || !bytes.Equal(b, want) {
				t.Fatalf("P11.3: Hints(%d) of a one at %d is %v, %v", p.set, at, b, e)
			}
			if back, e := Unhint(p.set, want); e != nil || !sameLists(back, h) {
				t.Fatalf("P11.3: Unhint(%d) of a one at %d is another one: %v", p.set, at, e)
			}
		}
	}
}

// overHints have more than omega ones; some as many as omega, if they are counted in a byte.
func (p row) overHints() [][][]int {
	all, omega := p.of.K*count, p.of.Omega
	found := [][][]int{p.ones(run(0, all, 1)...), p.ones(run(0, 256, 1)...), p.ones(run(0, 256+omega, 1)...), p.ones(append(run(0, omega, 1), all-1)...)}
	for i := range p.of.K {
		first := i * count
		found = append(found, p.ones(run(first, omega+1, 1)...), p.ones(run(first+count-omega-1, omega+1, 1)...), p.ones(run(first, count, 1)...))
	}
	for _, many := range []int{omega + 1, omega + 2, 2 * omega, 255, 256, 257, 256 + omega, 512, all - 1} {
		found = append(found, p.drawnHints(many, many))
	}
	return found
}

func TestHintsOfTooManyOnes(t *testing.T) {
	for _, p := range rows() {
		for i, h := range p.overHints() {
			if b, e := Hints(p.set, h); !refused(b, e, api.ErrOver) {
				t.Errorf("P11.3: Hints(%d) of the %d-th with too many is %v, %v", p.set, i, b, e)
			}
		}
	}
}

// oddLists are not k lists of 256 numbers from 0 on, below m, though fs is; by what is wrong.
func (p row) oddLists(fs [][]int, m int) map[string][][]int {
	last := p.of.K - 1
	found := map[string][][]int{
		"nil": nil, "no lists": {}, "no lists, with room for k": fs[:0], "one list": fs[:1],
		"k - 1 lists": fs[:last], "the last k - 1 lists": fs[1:], "k + 1 lists": append(slices.Clone(fs), fs[0]), "2 k lists": slices.Concat(fs, fs),
		"k + 1 lists, the last one nil": append(slices.Clone(fs), nil), "k - 1 lists, with room for k": slices.Clone(fs)[:last], "k lists that are nil": make([][]int, p.of.K),
	}
	for _, i := range []int{0, p.of.K / 2, last} {
		put := func(what string, f []int) {
			odd := slices.Clone(fs)
			odd[i] = f
			found["list "+strconv.Itoa(i)+": "+what] = odd
		}
		put("nil", nil)
		put("no numbers", []int{})
		put("1 number", fs[i][:1])
		put("255 numbers", fs[i][:count-1])
		put("255 numbers, from the second on", fs[i][1:])
		put("257 numbers", append(slices.Clone(fs[i]), 0))
		put("512 numbers", slices.Concat(fs[i], fs[i]))
		for _, place := range places() {
			for _, x := range []int{-1, -2, -m, -256, math.MinInt, math.MinInt + 1, m, m + 1, 2 * m, 255, 256, 257, prime, prime + 1, 1 << 32, 1<<32 + 1, math.MaxInt} {
				f := slices.Clone(fs[i])
				f[place] = x
				put(strconv.Itoa(x)+" at "+strconv.Itoa(place), f)
			}
		}
	}
	return found
}

// What is wrong with the lists comes ahead of how many are 1.
func TestHintsOfOddLists(t *testing.T) {
	for _, p := range rows() {
		for _, h := range [][][]int{zeros(p.of.K), p.drawnHints(1, p.of.Omega), p.overHints()[0], p.overHints()[3]} {
			for what, odd := range p.oddLists(h, 2) {
				if b, e := Hints(p.set, odd); !refused(b, e, api.ErrSize) {
					t.Errorf("P11.3: Hints(%d) of %s: %v, %v", p.set, what, b, e)
				}
			}
		}
	}
}

// That the set is none comes ahead of all else that is wrong.
func TestNoSuchSet(t *testing.T) {
	for _, set := range noSets() {
		for _, p := range rows() {
			for _, h := range [][][]int{nil, zeros(p.of.K), p.overHints()[0], zeros(p.of.K)[1:], {filled(2)}} {
				if b, e := Hints(set, h); !refused(b, e, api.ErrArg) {
					t.Errorf("P11.3: Hints(%d) of %d polys: %v, %v", set, len(h), b, e)
				}
				if b, e := High(set, h); !refused(b, e, api.ErrArg) {
					t.Errorf("P11.3: High(%d) of %d lists: %v, %v", set, len(h), b, e)
				}
			}
			for _, b := range [][]byte{nil, make([]byte, p.of.Omega+p.of.K), make([]byte, p.of.Omega), slices.Repeat([]byte{255}, p.of.Omega+p.of.K)} {
				if h, e := Unhint(set, b); !refused(h, e, api.ErrArg) {
					t.Errorf("P11.3: Unhint(%d) of %d bytes: %d polys, %v", set, len(b), len(h), e)
				}
			}
		}
	}
}

// unhintAsTheWords tells whether Unhint answers what slowUnhint does.
func (p row) unhintAsTheWords(b []byte) bool {
	h, e := Unhint(p.set, b)
	want, ok := p.slowUnhint(b)
	if !ok {
		return refused(h, e, api.ErrForm)
	}
	return e == nil && sameLists(h, want)
}

// Each byte is made each other one: of no hints, of few, of as many as may be.
func TestUnhintOfEachByteChanged(t *testing.T) {
	for _, p := range rows() {
		for _, h := range [][][]int{p.ones(), p.drawnHints(1, p.of.Omega/2), p.drawnHints(2, p.of.Omega)} {
			b := p.slowHints(h)
			for at := range b {
				for c := range 256 {
					odd := slices.Clone(b)
					odd[at] = byte(c)
					if !p.unhintAsTheWords(odd) {
						t.Fatalf("P11.3: Unhint(%d) with byte %d made %d is not as the words say", p.set, at, c)
					}
				}
			}
		}
	}
}

// Any bytes, and bytes of several changes: some are hints still.
func TestUnhintOfDrawnBytes(t *testing.T) {
	for _, p := range rows() {
		from, seen := rand.New(rand.NewSource(int64(p.set))), map[bool]int{}
		for k := range 3000 {
			b := p.slowHints(p.drawnHints(k, k%(p.of.Omega+1)))
			if k%10 == 0 {
				b = drawnBytes(k, len(b))
			}
			for range k % 4 {
				at := from.Intn(len(b))
				b[at] += byte(from.Intn(5) - 2)
			}
			if !p.unhintAsTheWords(b) {
				t.Fatalf("P11.3: Unhint(%d) of %v is not as the words say", p.set, b)
			}
			_, ok := p.slowUnhint(b)
			seen[ok]++
		}
		if seen[true] < 500 || seen[false] < 500 {
			t.Errorf("P11.3: of what was tried in set %d, %d are hints and %d are none", p.set, seen[true], seen[false])
		}
	}
}

// laid are bytes of a set, by hand: places, zeros up to omega, and the ends, of which the last stands for all that follow.
func (p row) laid(places []byte, ends ...byte) []byte {
	b := make([]byte, p.of.Omega)
	copy(b, places)
	for len(ends) < p.of.K {
		ends = append(ends, ends[len(ends)-1])
	}
	return append(b, ends...)
}

func TestUnhintOfWhatIsLaidOfNone(t *testing.T) {
	for _, p := range rows() {
		omega, k := p.of.Omega, p.of.K
		rising := make([]byte, omega)
		for i := range rising {
			rising[i] = byte(2 * i)
		}
		falling, swapped, twice := slices.Clone(rising), slices.Clone(rising), slices.Clone(rising)
		slices.Reverse(falling)
		swapped[omega-1], swapped[omega-2] = swapped[omega-2], swapped[omega-1]
		twice[omega-1] = twice[omega-2]
		below := slices.Concat(rising, slices.Repeat([]byte{9}, k-1), []byte{8})
		lastOver := slices.Concat(rising, slices.Repeat([]byte{byte(omega)}, k-1), []byte{byte(omega + 1)})
		for what, b := range map[string][]byte{
			"two places that fall":                    p.laid([]byte{5, 4}, 2),
			"a place that stands twice":               p.laid([]byte{5, 5}, 2),
			"place 0 twice":                           p.laid(nil, 2),
			"place 0 twice, in the second poly":       p.laid([]byte{7}, 1, 3),
			"place 255 twice":                         p.laid([]byte{255, 255}, 2),
			"255, then 0":                             p.laid([]byte{255, 0}, 2),
			"places that fall, in the second poly":    p.laid([]byte{1, 9, 8}, 1, 3),
			"a place twice, in the second poly":       p.laid([]byte{9, 9, 9}, 1, 3),
			"places that all fall":                    p.laid(falling, byte(omega)),
			"the last two places that fall":           p.laid(swapped, byte(omega)),
			"the last two places the same":            p.laid(twice, byte(omega)),
			"a count below the one before":            p.laid([]byte{1, 2, 3}, 3, 2, 3),
			"a count of 0 behind another one":         p.laid([]byte{1}, 1, 0),
			"the last count below the one before":     below,
			"a count above omega":                     p.laid(rising, byte(omega+1)),
			"the last count above omega":              lastOver,
			"a count of 255":                          p.laid(rising, 255),
			"a first count of 255, then right ones":   p.laid(rising, 255, byte(omega)),
			"a first count above omega, then omega":   p.laid(rising, byte(omega+1), byte(omega)),
			"a byte behind the last place":            p.laid([]byte{1, 2, 3}, 2),
			"a byte behind no place":                  p.laid([]byte{1}, 0),
			"a last byte behind no place":             p.laid(append(make([]byte, omega-1), 1), 0),
			"a last byte behind all but one place":    p.laid(rising, byte(omega-1)),
			"a byte between zeros behind a place":     p.laid([]byte{4, 0, 255, 0}, 1),
			"bytes of 255":                            slices.Repeat([]byte{255}, omega+k),
			"places that rise, but none counted":      p.laid(rising, 0),
			"place 0 twice, and all that follow zero": p.laid(nil, 0, 0, 2),
		} {
			if h, e := Unhint(p.set, b); !refused(h, e, api.ErrForm) {
				t.Errorf("P11.3: Unhint(%d) of %s: %d polys, %v", p.set, what, len(h), e)
			}
		}
	}
}

// A poly's first place need not be above the last one of the poly ahead.
func TestUnhintOfPlacesThatRiseInEachPoly(t *testing.T) {
	for _, p := range rows() {
		for what, x := range map[string]struct {
			b    []byte
			want [][]int
		}{
			"the same place in each of three": {p.laid([]byte{9, 9, 9}, 1, 2, 3), p.ones(9, 256+9, 512+9)},
			"a lower one in the second":       {p.laid([]byte{200, 100}, 1, 2), p.ones(200, 256+100)},
			"place 0 in each of three":        {p.laid(nil, 1, 2, 3), p.ones(0, 256, 512)},
			"polys without ones between":      {p.laid([]byte{255, 0}, 1, 1, 1, 2), p.ones(255, 768)},
			"0, then 255":                     {p.laid([]byte{0, 255}, 2), p.ones(0, 255)},
		} {
			if h, e := Unhint(p.set, x.b); e != nil || !sameLists(h, x.want) {
				t.Errorf("P11.3: Unhint(%d) of %s is another one: %v", p.set, what, e)
			}
		}
	}
}

// How many bytes there are comes ahead of what they tell.
func TestUnhintOfOtherSizes(t *testing.T) {
	for _, p := range rows() {
		right := p.of.Omega + p.of.K
		for _, n := range []int{0, 1, p.of.K, p.of.Omega, p.of.Omega + 1, right - 2, right - 1, right + 1, right + 2, 2 * right, 256 + right, 1<<16 + right} {
			for _, b := range [][]byte{make([]byte, n), make([]byte, n+right)[:n], slices.Repeat([]byte{255}, n)} {
				if h, e := Unhint(p.set, b); !refused(h, e, api.ErrSize) {
					t.Errorf("P11.3: Unhint(%d) of %d bytes: %d polys, %v", p.set, n, len(h), e)
				}
			}
		}
		if h, e := Unhint(p.set, nil); !refused(h, e, api.ErrSize) {
			t.Errorf("P11.3: Unhint(%d) of nil: %d polys, %v", p.set, len(h), e)
		}
	}
}

// drawnHigh are lists of numbers from 0 to m - 1, the same for the same seed.
func (p row) drawnHigh(seed int) [][]int {
	w := make([][]int, p.of.K)
	for i := range w {
		w[i] = drawn(100*seed+i, 0, p.parts-1)
	}
	return w
}

// slowHigh goes by the chapter's words.
func (p row) slowHigh(w [][]int) []byte {
	var b []byte
	for _, f := range w {
		b = append(b, slowBytes(p.partBits, f)...)
	}
	return b
}

func TestHighByTheWords(t *testing.T) {
	for _, p := range rows() {
		if p.parts != (prime-1)/(2*p.of.G2) {
			t.Errorf("P11.3: set %d has not %d parts", p.set, p.parts)
		}
		all := [][][]int{zeros(p.of.K), slices.Repeat([][]int{filled(p.parts - 1)}, p.of.K), slices.Repeat([][]int{filled(1)}, p.of.K)}
		for seed := range 10 {
			all = append(all, p.drawnHigh(seed))
		}
		for i, w := range all {
			if b, e := High(p.set, w); e != nil || len(b) != 32*p.partBits*p.of.K || !bytes.Equal(b, p.slowHigh(w)) {
				t.Errorf("P11.3: High(%d) of the %d-th is another one, of %d bytes: %v", p.set, i, len(b), e)
			}
		}
	}
}

func TestHighByHand(t *testing.T) {
	w := zeros(4)
	w[0][0], w[0][1], w[3][255] = 43, 1, 43
	b, e := High(1, w)
	if want := slices.Concat([]byte{43 | 1<<6}, make([]byte, 766), []byte{43 << 2}); e != nil || !bytes.Equal(b, want) {
		t.Errorf("P11.3: High(1) is %v, %v", b, e)
	}
	w = zeros(6)
	w[0][0], w[0][1], w[5][255] = 15, 1, 15
	b, e = High(2, w)
	if want := slices.Concat([]byte{15 | 1<<4}, make([]byte, 766), []byte{15 << 4}); e != nil || !bytes.Equal(b, want) {
		t.Errorf("P11.3: High(2) is %v, %v", b, e)
	}
}

func TestHighAtTheEdges(t *testing.T) {
	for _, p := range rows() {
		for i := range p.of.K {
			for _, place := range places() {
				for _, x := range []int{0, 1, p.parts - 2, p.parts - 1} {
					w := p.drawnHigh(i)
					w[i][place] = x
					if b, e := High(p.set, w); e != nil || !bytes.Equal(b, p.slowHigh(w)) {
						t.Errorf("P11.3: High(%d) with %d at place %d of list %d: %v", p.set, x, place, i, e)
					}
				}
			}
		}
	}
}

// Numbers of m and above are refused, those that the bits still would tell, too.
func TestHighOfOddLists(t *testing.T) {
	for _, p := range rows() {
		for what, odd := range p.oddLists(p.drawnHigh(1), p.parts) {
			if b, e := High(p.set, odd); !refused(b, e, api.ErrSize) {
				t.Errorf("P11.3: High(%d) of %s: %d bytes, %v", p.set, what, len(b), e)
			}
		}
		for x := p.parts; x < 1<<p.partBits+2; x++ {
			w := p.drawnHigh(2)
			w[1][2] = x
			if b, e := High(p.set, w); !refused(b, e, api.ErrSize) {
				t.Errorf("P11.3: High(%d) with %d: %d bytes, %v", p.set, x, len(b), e)
			}
		}
	}
}

func BenchmarkHints(b *testing.B) {
	h := rows()[0].drawnHints(1, 60)
	for b.Loop() {
		Hints(1, h)
	}
}

func BenchmarkUnhint(b *testing.B) {
	laid := rows()[0].slowHints(rows()[0].drawnHints(1, 60))
	for b.Loop() {
		Unhint(1, laid)
	}
}

func BenchmarkHigh(b *testing.B) {
	w := rows()[0].drawnHigh(1)
	for b.Loop() {
		High(1, w)
	}
}
