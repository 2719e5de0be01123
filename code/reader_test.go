package code

import (
	"bytes"
	"encoding/binary"
	"math"
	"math/rand/v2"
	"slices"
	"strconv"
	"testing"

	"chatelaine/api"
)

// slow reads by the chapter's words.
type slow struct {
	b     []byte
	at    int
	wrong bool
}

func (s *slow) number(lo, hi int) int {
	if s.wrong || len(s.b)-s.at < 8 {
		s.wrong = true
		return 0
	}
	n := int(int64(binary.BigEndian.Uint64(s.b[s.at:])))
	if n < lo || hi < n {
		s.wrong = true
		return 0
	}
	s.at += 8
	return n
}

func (s *slow) bytes(most int) []byte {
	n := s.number(0, most)
	if s.wrong || len(s.b)-s.at < n {
		s.wrong = true
		return nil
	}
	s.at += n
	return s.b[s.at-n : s.at]
}

func (s *slow) left() int {
	if s.wrong {
		return 0
	}
	return len(s.b) - s.at
}

func (s *slow) end() api.Errno {
	if s.wrong || s.at != len(s.b) {
		return api.ErrForm
	}
	return api.OK
}

// wrongNow tells whether something was wrong: whatever is asked, there is nothing, and ErrForm behind it.
func wrongNow(r *Reader) bool {
	nothing := func() bool { return r.Left() == 0 && is(r.End(), api.ErrForm) }
	return nothing() &&
		r.Number(math.MinInt, math.MaxInt) == 0 && nothing() && r.Number(0, 0) == 0 && r.Number(5, 9) == 0 && nothing() &&
		len(r.Bytes(math.MaxInt)) == 0 && nothing() && len(r.Bytes(0)) == 0 && nothing() &&
		r.Text(math.MaxInt) == "" && nothing() && r.Text(0) == "" && nothing()
}

// rightNow tells whether nothing was wrong, with so many bytes left, of which Left and End change nothing.
func rightNow(r *Reader, left int) bool {
	want := api.ErrForm
	if left == 0 {
		want = api.OK
	}
	return r.Left() == left && is(r.End(), want) && r.Left() == left && is(r.End(), want)
}

// ends are numbers as far as there are any.
var ends = []int{math.MinInt, math.MinInt + 1, -1, 0, 1, math.MaxInt - 1, math.MaxInt}

func TestReaderOfNothing(t *testing.T) {
	for _, b := range [][]byte{nil, {}} {
		if r := New(b); r == nil || !rightNow(r, 0) {
			t.Errorf("P14.1: New of %v", b)
		}
		for name, ask := range map[string]func(r *Reader) bool{
			"Number": func(r *Reader) bool { return r.Number(math.MinInt, math.MaxInt) == 0 },
			"Bytes":  func(r *Reader) bool { return len(r.Bytes(9)) == 0 },
			"Text":   func(r *Reader) bool { return r.Text(9) == "" },
		} {
			if r := New(b); !ask(r) || !wrongNow(r) {
				t.Errorf("P14.1: %s of nothing is not wrong", name)
			}
		}
	}
}

func TestNumberAtItsBounds(t *testing.T) {
	for _, n := range append(edgeNumbers(), -300, -7, 7, 300) {
		bounds := slices.Concat(ends, []int{n, n - 1, n + 1, -n, n / 2})
		for _, lo := range bounds {
			for _, hi := range bounds {
				r := New(Number(nil, n, 77))
				got := r.Number(lo, hi)
				if lo <= n && n <= hi {
					if got != n || !rightNow(r, 8) || r.Number(77, 77) != 77 || !rightNow(r, 0) {
						t.Fatalf("P14.1: Number(%d, %d) of %d is %d", lo, hi, n, got)
					}
				} else if got != 0 || !wrongNow(r) {
					t.Fatalf("P14.1: Number(%d, %d) of %d is %d, or nothing is wrong behind it", lo, hi, n, got)
				}
			}
		}
	}
}

func TestNumberOfNoBounds(t *testing.T) {
	for _, x := range []struct{ n, lo, hi int }{{5, 5, 4}, {4, 5, 4}, {5, 6, 4}, {0, 1, -1}, {0, 1, 0}, {0, 0, -1}, {-5, -4, -5}, {0, math.MaxInt, math.MinInt}, {math.MinInt, math.MaxInt, math.MinInt}} {
		if r := New(Number(nil, x.n)); r.Number(x.lo, x.hi) != 0 || !wrongNow(r) {
			t.Errorf("P14.1: Number(%d, %d) of %d is one", x.lo, x.hi, x.n)
		}
	}
}

func TestNumberOfSoManyBytes(t *testing.T) {
	for n := range 18 {
		for _, bounds := range [][2]int{{math.MinInt, math.MaxInt}, {0, 0}, {0, 9}, {-9, 0}} {
			r := New(make([]byte, n))
			if r.Number(bounds[0], bounds[1]) != 0 {
				t.Errorf("P14.1: Number of %d zeros is not 0", n)
			}
			if n < 8 && !wrongNow(r) || n >= 8 && !rightNow(r, n-8) {
				t.Errorf("P14.1: Number of %d bytes", n)
			}
		}
	}
	if r := New(slices.Repeat([]byte{255}, 7)); r.Number(math.MinInt, math.MaxInt) != 0 || !wrongNow(r) {
		t.Error("P14.1: Number of 7 bytes is one")
	}
	if r := New(slices.Repeat([]byte{255}, 9)); r.Number(math.MinInt, math.MaxInt) != -1 || !rightNow(r, 1) || r.Number(math.MinInt, math.MaxInt) != 0 || !wrongNow(r) {
		t.Error("P14.1: Number of 9 bytes")
	}
}

// What stands behind a number that is wrong is not told.
func TestNothingBehindWhatIsWrong(t *testing.T) {
	for name, spoil := range map[string]func(r *Reader) bool{
		"a number above":  func(r *Reader) bool { return r.Number(0, 2) == 0 },
		"a number below":  func(r *Reader) bool { return r.Number(4, 9) == 0 },
		"too many bytes":  func(r *Reader) bool { return len(r.Bytes(2)) == 0 },
		"too long a text": func(r *Reader) bool { return r.Text(2) == "" },
		"bytes below 0":   func(r *Reader) bool { return len(r.Bytes(-1)) == 0 },
		"a text below 0":  func(r *Reader) bool { return r.Text(-1) == "" },
	} {
		r := New(Bytes(Number(Bytes(nil, []byte("abc")), 0, 5), []byte("de"), nil))
		if !spoil(r) || !wrongNow(r) || !wrongNow(r) {
			t.Errorf("P14.1: something is told behind %s", name)
		}
	}
	r := New(Number(nil, 99, 5, 6))
	if r.Number(99, 99) != 99 || r.Number(0, 4) != 0 || !wrongNow(r) {
		t.Error("P14.1: something is told behind a second number that is wrong")
	}
}

// asked is what Bytes and Text are asked of: what the number says, the bytes behind it, and most.
type asked struct{ says, have, most int }

func (x asked) right() bool { return 0 <= x.says && x.says <= x.most && x.says <= x.have }

func askeds() []asked {
	var found []asked
	for _, n := range []int{0, 1, 2, 3, 7, 8, 9, 100, 255, 256, 300, 65536} {
		for _, have := range []int{n - 1, n, n + 1, n + 8, 0} {
			for _, most := range slices.Concat(ends, []int{n - 1, n, n + 1, 2*n + 5, -n}) {
				if have >= 0 {
					found = append(found, asked{n, have, most})
				}
			}
		}
	}
	for _, says := range []int{-1, -2, -8, -300, math.MinInt, math.MinInt + 1, math.MinInt + 8, 1 << 20, 1 << 31, 1<<31 - 1, 1 << 32, 1<<32 + 3, 1 << 62, math.MaxInt - 8, math.MaxInt - 7, math.MaxInt} {
		for _, have := range []int{0, 1, 3, 8, 300} {
			for _, most := range slices.Concat(ends, []int{says, 3, 300}) {
				found = append(found, asked{says, have, most})
			}
		}
	}
	return found
}

func TestBytesAndTextAtTheirBounds(t *testing.T) {
	right := 0
	for _, x := range askeds() {
		behind := mixed(x.have, 5)
		laid := slices.Concat(slowNumbers(x.says), behind)
		b, s := New(laid), New(laid)
		gotBytes, gotText := b.Bytes(x.most), s.Text(x.most)
		if !x.right() {
			if len(gotBytes) != 0 || gotText != "" || !wrongNow(b) || !wrongNow(s) {
				t.Fatalf("P14.1: Bytes(%d), Text(%d) of %d bytes that are to be %d", x.most, x.most, x.have, x.says)
			}
			continue
		}
		right++
		want := behind[:x.says]
		if !bytes.Equal(gotBytes, want) || gotText != string(want) || !rightNow(b, x.have-x.says) || !rightNow(s, x.have-x.says) {
			t.Fatalf("P14.1: Bytes(%d), Text(%d) of %d bytes that are to be %d: %v, %q", x.most, x.most, x.have, x.says, gotBytes, gotText)
		}
	}
	if right < 100 {
		t.Errorf("only %d of those asked are right", right)
	}
}

func TestBytesAndTextOfNoWholeNumber(t *testing.T) {
	for n := range 8 {
		b, s := New(make([]byte, n)), New(make([]byte, n))
		if len(b.Bytes(9)) != 0 || s.Text(9) != "" || !wrongNow(b) || !wrongNow(s) {
			t.Errorf("P14.1: Bytes or Text of %d bytes is right", n)
		}
	}
}

func TestTextsAreReadAgain(t *testing.T) {
	var laid []byte
	for _, s := range texts() {
		laid = Text(laid, s)
	}
	r := New(laid)
	for _, s := range texts() {
		if got := r.Text(300); got != s {
			t.Errorf("P14.1: Text of %q is %q", s, got)
		}
	}
	if !rightNow(r, 0) {
		t.Error("P14.1: texts are left")
	}
}

// What Text lays Bytes reads, and the other way round.
func TestTextsAndBytesAreOneWay(t *testing.T) {
	r := New(Text(Bytes(nil, []byte("\xffbytes")), "\xfetext"))
	if r.Text(6) != "\xffbytes" || string(r.Bytes(5)) != "\xfetext" || r.End() != nil {
		t.Error("P14.1: Text of what Bytes laid, Bytes of what Text laid")
	}
}

func TestEnd(t *testing.T) {
	for n := range 20 {
		r := New(make([]byte, n))
		if !rightNow(r, n) || !rightNow(r, n) {
			t.Errorf("P14.1: End, Left with %d bytes left: %v, %d", n, r.End(), r.Left())
		}
		if n >= 8 && (r.Number(0, 0) != 0 || !rightNow(r, n-8)) {
			t.Errorf("P14.1: End, Left asked ahead of Number of %d bytes change something", n)
		}
	}
	r := New(Number(nil, 5))
	if r.Number(0, 4) != 0 || !is(r.End(), api.ErrForm) || !wrongNow(r) {
		t.Error("P14.1: End behind a wrong number that was the last")
	}
	r = New(Number(nil, 5))
	if r.Number(0, 5) != 5 || r.End() != nil || r.Number(0, 5) != 0 || !wrongNow(r) {
		t.Error("P14.1: End behind a number too many")
	}
}

// item is what is laid, and read again.
type item struct {
	kind, n int
	part    []byte
}

const (
	number = iota
	part
	text
	kinds
)

func (x item) lay(b []byte) []byte {
	switch x.kind {
	case number:
		return Number(b, x.n)
	case part:
		return Bytes(b, x.part)
	}
	return Text(b, string(x.part))
}

// read tells whether r and s tell the same of this kind, by these bounds.
func (x item) read(r *Reader, s *slow, lo, hi int) bool {
	switch x.kind {
	case number:
		return r.Number(lo, hi) == s.number(lo, hi)
	case part:
		return bytes.Equal(r.Bytes(hi), s.bytes(hi))
	}
	return r.Text(hi) == string(s.bytes(hi))
}

func (x item) bounds() (int, int) {
	if x.kind == number {
		return x.n, x.n
	}
	return 0, len(x.part)
}

func drawnItems(from *rand.Rand) []item {
	var items []item
	for range from.IntN(9) {
		n := []int{from.IntN(5), -from.IntN(300), int(from.Uint64()), from.IntN(40)}[from.IntN(4)]
		items = append(items, item{from.IntN(kinds), n, mixed(from.IntN(20)*from.IntN(2), n)})
	}
	return items
}

// spoilt is what was laid, cut, or longer, or with a byte changed, or as it was.
func spoilt(laid []byte, from *rand.Rand) []byte {
	b := bytes.Clone(laid)
	switch from.IntN(5) {
	case 0:
		return b[:from.IntN(len(b)+1)]
	case 1:
		return append(b, mixed(from.IntN(10), 3)...)
	case 2:
		if len(b) > 0 {
			b[from.IntN(len(b))] ^= 1 << from.IntN(8)
		}
	}
	return b
}

func TestReadersGoByTheChapter(t *testing.T) {
	outcomes := map[string]int{}
	for k := range 30000 {
		from := rand.New(rand.NewPCG(14, uint64(k)))
		items := drawnItems(from)
		var laid []byte
		for _, x := range items {
			laid = x.lay(laid)
		}
		laid = spoilt(laid, from)
		r, s := New(laid), &slow{b: laid}
		for i, x := range items {
			if from.IntN(30) == 0 {
				x.kind = from.IntN(kinds)
			}
			lo, hi := x.bounds()
			if from.IntN(3) == 0 {
				lo, hi = lo-from.IntN(3), hi+from.IntN(300)-1
			}
			if !x.read(r, s, lo, hi) || r.Left() != s.left() || !is(r.End(), s.end()) {
				t.Fatalf("P14.1: run %d, item %d of kind %d, from %d to %d, of %v", k, i, x.kind, lo, hi, laid)
			}
		}
		if s.wrong && !wrongNow(r) || !s.wrong && !rightNow(r, s.left()) {
			t.Fatalf("P14.1: run %d ends otherwise, of %v", k, laid)
		}
		outcomes[strconv.FormatBool(s.wrong)+" "+s.end().Error()]++
	}
	for _, want := range []string{"false ok", "false form", "true form"} {
		if outcomes[want] < 1000 {
			t.Errorf("runs that end %s are %d", want, outcomes[want])
		}
	}
}

// sample is some of each kind.
func sample() []item {
	return []item{{number, 7, nil}, {text, 0, []byte("text")}, {part, 0, mixed(9, 1)}, {number, math.MinInt, nil}, {part, 0, nil}, {text, 0, nil}, {number, -1, nil}, {number, math.MaxInt, nil}, {text, 0, mixed(20, 2)}, {part, 0, mixed(300, 3)}, {number, 0, nil}}
}

func laidSample() []byte {
	var laid []byte
	for _, x := range sample() {
		laid = x.lay(laid)
	}
	return laid
}

// readSample is how many items are read as they were laid.
func readSample(r *Reader) int {
	for i, x := range sample() {
		want := r.Left()
		lo, hi := x.bounds()
		switch {
		case x.kind == number && r.Number(lo, hi) != x.n, x.kind == part && !bytes.Equal(r.Bytes(hi), x.part), x.kind == text && r.Text(hi) != string(x.part):
			return i
		}
		if want -= len(x.lay(nil)); want != r.Left() || want < 0 {
			return i
		}
	}
	return len(sample())
}

func TestThereAndBack(t *testing.T) {
	laid := laidSample()
	r := New(laid)
	if !rightNow(r, len(laid)) || readSample(r) != len(sample()) || !rightNow(r, 0) {
		t.Error("P14.1: what was laid is not read again")
	}
	if again := readSample(r); again != 0 || !wrongNow(r) {
		t.Errorf("P14.1: behind all, %d items more are read", again)
	}
	longer := New(append(laid, 0))
	if readSample(longer) != len(sample()) || !rightNow(longer, 1) {
		t.Error("P14.1: what was laid, and a byte more")
	}
}

func TestCutAtEachPlace(t *testing.T) {
	laid := laidSample()
	for cut := range laid {
		whole, size := 0, 0
		for _, x := range sample() {
			if size += len(x.lay(nil)); size > cut {
				break
			}
			whole++
		}
		r := New(laid[:cut])
		if got := readSample(r); got != whole || !wrongNow(r) {
			t.Errorf("P14.1: cut at %d of %d, %d items are read, not %d: %v", cut, len(laid), got, whole, r.End())
		}
	}
}
