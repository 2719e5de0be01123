package code

import (
	"bytes"
	"encoding/binary"
	"errors"
	"math"
	"math/rand/v2"
	"slices"
	"strings"
	"testing"

	"chatelaine/api"
)

// is tells whether an error is a Fault with that Errno, or none of OK.
func is(e error, want api.Errno) bool {
	if want == api.OK {
		return e == nil
	}
	var f *api.Fault
	return errors.As(e, &f) && f.Code == want && errors.Is(e, want) && api.Code(e) == want
}

// mixed are n bytes, other ones for each k.
func mixed(n, k int) []byte {
	b, from := make([]byte, n), rand.New(rand.NewPCG(uint64(n), uint64(k)))
	for i := range b {
		b[i] = byte(from.Uint64())
	}
	return b
}

// withMarks is b, with spare room behind it, which holds marks.
func withMarks(b []byte) []byte {
	return slices.Concat(b, mixed(400, 7))[:len(b)]
}

// whole is a copy of b with its spare room.
func whole(b []byte) []byte { return bytes.Clone(b[:cap(b)]) }

// overwrite changes each byte of b, and of its spare room.
func overwrite(b []byte) {
	for i := range b[:cap(b)] {
		b[:cap(b)][i] ^= 255
	}
}

// slowNumbers are the numbers' bytes.
func slowNumbers(ns ...int) []byte {
	var laid []byte
	for _, n := range ns {
		laid = binary.BigEndian.AppendUint64(laid, uint64(n))
	}
	return laid
}

// slowBytes are the parts' bytes.
func slowBytes(parts ...[]byte) []byte {
	var laid []byte
	for _, part := range parts {
		laid = slices.Concat(laid, slowNumbers(len(part)), part)
	}
	return laid
}

// heads are what stands ahead of what is laid.
func heads() [][]byte {
	return [][]byte{nil, {}, {0}, {9}, {255, 0, 1}, mixed(8, 1), mixed(100, 2), mixed(513, 3)}
}

func TestNumbersByHand(t *testing.T) {
	for _, x := range []struct {
		ns   []int
		want []byte
	}{
		{nil, nil},
		{[]int{}, nil},
		{[]int{0}, []byte{0, 0, 0, 0, 0, 0, 0, 0}},
		{[]int{1}, []byte{0, 0, 0, 0, 0, 0, 0, 1}},
		{[]int{-1}, []byte{255, 255, 255, 255, 255, 255, 255, 255}},
		{[]int{-2}, []byte{255, 255, 255, 255, 255, 255, 255, 254}},
		{[]int{255}, []byte{0, 0, 0, 0, 0, 0, 0, 255}},
		{[]int{256}, []byte{0, 0, 0, 0, 0, 0, 1, 0}},
		{[]int{-255}, []byte{255, 255, 255, 255, 255, 255, 255, 1}},
		{[]int{-256}, []byte{255, 255, 255, 255, 255, 255, 255, 0}},
		{[]int{-257}, []byte{255, 255, 255, 255, 255, 255, 254, 255}},
		{[]int{1 << 31}, []byte{0, 0, 0, 0, 128, 0, 0, 0}},
		{[]int{1 << 32}, []byte{0, 0, 0, 1, 0, 0, 0, 0}},
		{[]int{api.MaxClock}, []byte{0, 0, 1, 0, 0, 0, 0, 0}},
		{[]int{0x0102030405060708}, []byte{1, 2, 3, 4, 5, 6, 7, 8}},
		{[]int{math.MaxInt}, []byte{127, 255, 255, 255, 255, 255, 255, 255}},
		{[]int{math.MinInt}, []byte{128, 0, 0, 0, 0, 0, 0, 0}},
		{[]int{math.MinInt + 1}, []byte{128, 0, 0, 0, 0, 0, 0, 1}},
		{[]int{258, -1}, []byte{0, 0, 0, 0, 0, 0, 1, 2, 255, 255, 255, 255, 255, 255, 255, 255}},
		{[]int{-1, 258}, []byte{255, 255, 255, 255, 255, 255, 255, 255, 0, 0, 0, 0, 0, 0, 1, 2}},
		{[]int{0, 0, 7}, []byte{0, 0, 0, 0, 0, 0, 0, 0, 0, 0, 0, 0, 0, 0, 0, 0, 0, 0, 0, 0, 0, 0, 0, 7}},
	} {
		if got := Number(nil, x.ns...); !bytes.Equal(got, x.want) {
			t.Errorf("P14.1: Number of %d is %v, not %v", x.ns, got, x.want)
		}
	}
}

// edgeNumbers are those about each power of 2, of either sign, and both ends.
func edgeNumbers() []int {
	ns := []int{math.MinInt, math.MinInt + 1, math.MaxInt, math.MaxInt - 1}
	for d := range 63 {
		for away := -2; away <= 2; away++ {
			ns = append(ns, 1<<d+away, -1<<d+away)
		}
	}
	return ns
}

func TestNumbersAboutPowersOfTwo(t *testing.T) {
	ns := edgeNumbers()
	for _, n := range ns {
		if got := Number(nil, n); !bytes.Equal(got, slowNumbers(n)) {
			t.Errorf("P14.1: Number of %d is %v", n, got)
		}
	}
	for many := range 20 {
		if got := Number(nil, ns[:many]...); !bytes.Equal(got, slowNumbers(ns[:many]...)) {
			t.Errorf("P14.1: Number of %d numbers is %v", many, got)
		}
	}
	if got := Number(nil, ns...); !bytes.Equal(got, slowNumbers(ns...)) {
		t.Errorf("P14.1: Number of %d numbers at once", len(ns))
	}
}

func TestBytesByHand(t *testing.T) {
	for _, x := range []struct {
		parts [][]byte
		want  []byte
	}{
		{nil, nil},
		{[][]byte{}, nil},
		{[][]byte{nil}, []byte{0, 0, 0, 0, 0, 0, 0, 0}},
		{[][]byte{{}}, []byte{0, 0, 0, 0, 0, 0, 0, 0}},
		{[][]byte{{5}}, []byte{0, 0, 0, 0, 0, 0, 0, 1, 5}},
		{[][]byte{{0}}, []byte{0, 0, 0, 0, 0, 0, 0, 1, 0}},
		{[][]byte{{255, 254, 0}}, []byte{0, 0, 0, 0, 0, 0, 0, 3, 255, 254, 0}},
		{[][]byte{nil, {}}, make([]byte, 16)},
		{[][]byte{[]byte("ab"), nil}, []byte{0, 0, 0, 0, 0, 0, 0, 2, 'a', 'b', 0, 0, 0, 0, 0, 0, 0, 0}},
		{[][]byte{{}, []byte("ab")}, []byte{0, 0, 0, 0, 0, 0, 0, 0, 0, 0, 0, 0, 0, 0, 0, 2, 'a', 'b'}},
		{[][]byte{[]byte("b"), []byte("a")}, []byte{0, 0, 0, 0, 0, 0, 0, 1, 'b', 0, 0, 0, 0, 0, 0, 0, 1, 'a'}},
	} {
		if got := Bytes(nil, x.parts...); !bytes.Equal(got, x.want) {
			t.Errorf("P14.1: Bytes of %v is %v, not %v", x.parts, got, x.want)
		}
	}
}

func TestBytesOfManyBytes(t *testing.T) {
	for n, head := range map[int][]byte{255: {0, 0, 0, 0, 0, 0, 0, 255}, 256: {0, 0, 0, 0, 0, 0, 1, 0}, 300: {0, 0, 0, 0, 0, 0, 1, 44}, 65536: {0, 0, 0, 0, 0, 1, 0, 0}} {
		part := mixed(n, 1)
		if got := Bytes(nil, part); !bytes.Equal(got, slices.Concat(head, part)) {
			t.Errorf("P14.1: Bytes of %d bytes begins %v", n, got[:8])
		}
		if got := Text(nil, string(part)); !bytes.Equal(got, slices.Concat(head, part)) {
			t.Errorf("P14.1: Text of %d bytes begins %v", n, got[:8])
		}
	}
	parts := [][]byte{mixed(255, 1), nil, mixed(256, 2), {}, mixed(300, 3), {1}}
	for many := range len(parts) + 1 {
		if got := Bytes(nil, parts[:many]...); !bytes.Equal(got, slowBytes(parts[:many]...)) {
			t.Errorf("P14.1: Bytes of %d parts", many)
		}
	}
}

// texts are texts of any bytes, letters or not.
func texts() []string {
	return []string{"", "q", "chatelaine", "\x00", "\xff\xfe\x00", "\xc3\x28", "\xed\xa0\x80", "\ufffd", "é", "日本", strings.Repeat("x", 255), strings.Repeat("é", 128), string(mixed(300, 4))}
}

func TestTexts(t *testing.T) {
	if got := Text(nil, ""); !bytes.Equal(got, make([]byte, 8)) {
		t.Errorf("P14.1: Text of none is %v", got)
	}
	if got := Text(nil, "\xff\x00q"); !bytes.Equal(got, []byte{0, 0, 0, 0, 0, 0, 0, 3, 255, 0, 'q'}) {
		t.Errorf("P14.1: Text of no letters is %v", got)
	}
	for _, s := range texts() {
		if got := Text(nil, s); !bytes.Equal(got, slowBytes([]byte(s))) || !bytes.Equal(got, Bytes(nil, []byte(s))) {
			t.Errorf("P14.1: Text of %q is %v", s, got)
		}
	}
}

// laying is a call that lays something behind b, and what it lays.
type laying struct {
	name string
	lay  func(b []byte) []byte
	want []byte
}

func layings() []laying {
	part, more := mixed(300, 1), mixed(3, 2)
	found := []laying{
		{"Number of none", func(b []byte) []byte { return Number(b) }, nil},
		{"Number of one", func(b []byte) []byte { return Number(b, -7) }, slowNumbers(-7)},
		{"Number of several", func(b []byte) []byte { return Number(b, 1, math.MinInt, 300) }, slowNumbers(1, math.MinInt, 300)},
		{"Bytes of none", func(b []byte) []byte { return Bytes(b) }, nil},
		{"Bytes of nil", func(b []byte) []byte { return Bytes(b, nil) }, slowBytes(nil)},
		{"Bytes of one", func(b []byte) []byte { return Bytes(b, part) }, slowBytes(part)},
		{"Bytes of several", func(b []byte) []byte { return Bytes(b, more, nil, part, more) }, slowBytes(more, nil, part, more)},
	}
	for _, s := range texts() {
		found = append(found, laying{"Text", func(b []byte) []byte { return Text(b, s) }, slowBytes([]byte(s))})
	}
	return found
}

func TestLaidBehind(t *testing.T) {
	for _, x := range layings() {
		for _, head := range heads() {
			if got := x.lay(head); !bytes.Equal(got, slices.Concat(head, x.want)) {
				t.Errorf("P14.1: %s behind %d bytes is %v", x.name, len(head), got)
			}
		}
	}
}

func TestWhatIsLaidBehindIsACopy(t *testing.T) {
	for _, x := range layings() {
		for _, head := range heads() {
			in := withMarks(head)
			had := whole(in)
			told := x.lay(in)
			if !bytes.Equal(told, slices.Concat(head, x.want)) || !bytes.Equal(whole(in), had) {
				t.Errorf("R4: %s behind %d bytes changes them, or their spare room", x.name, len(head))
			}
			overwrite(told)
			if !bytes.Equal(whole(in), had) {
				t.Errorf("R4: %s behind %d bytes shares their memory", x.name, len(head))
			}
			kept := x.lay(in)
			overwrite(in)
			if !bytes.Equal(kept, slices.Concat(head, x.want)) {
				t.Errorf("R4: %s behind %d bytes keeps them", x.name, len(head))
			}
		}
	}
}

func TestAnswersShareNothing(t *testing.T) {
	for _, x := range layings() {
		for _, head := range heads() {
			in, want := withMarks(head), slices.Concat(head, x.want)
			first, second := x.lay(in), x.lay(in)
			overwrite(second)
			if !bytes.Equal(first, want) {
				t.Errorf("R4: two answers of %s behind %d bytes share memory", x.name, len(head))
			}
			if again := x.lay(in); !bytes.Equal(again, want) {
				t.Errorf("R5: %s behind %d bytes tells another answer later", x.name, len(head))
			}
		}
	}
}

func TestNumbersThatAreHandedInStay(t *testing.T) {
	room := []int{4, 5, 6, 7, 8}
	told := Number(nil, room[:3]...)
	if !slices.Equal(room, []int{4, 5, 6, 7, 8}) {
		t.Error("R4: Number changes the numbers that it is handed, or their spare room")
	}
	clear(room)
	if !bytes.Equal(told, slowNumbers(4, 5, 6)) {
		t.Error("R4: Number keeps the numbers that it is handed")
	}
}

func TestPartsThatAreHandedInStay(t *testing.T) {
	one, other := withMarks([]byte("one")), withMarks(nil)
	parts := append(make([][]byte, 0, 4), one, nil, other)
	hadOne, hadOther := whole(one), whole(other)
	told := Bytes([]byte("b"), parts...)
	if !bytes.Equal(whole(one), hadOne) || !bytes.Equal(whole(other), hadOther) {
		t.Error("R4: Bytes changes a part, or its spare room")
	}
	if len(parts[0]) != 3 || &parts[0][0] != &one[0] || parts[1] != nil || len(parts[2]) != 0 || parts[:4][3] != nil {
		t.Error("R4: Bytes changes the list of parts, or its spare room")
	}
	want := bytes.Clone(told)
	overwrite(one)
	clear(parts)
	if !bytes.Equal(told, want) {
		t.Error("R4: Bytes keeps a part")
	}
	hadOne = whole(one)
	overwrite(told)
	if !bytes.Equal(whole(one), hadOne) {
		t.Error("R4: Bytes tells the memory of a part")
	}
}

// A part may be b itself, or stand in its spare room.
func TestPartsOfTheBytesAhead(t *testing.T) {
	all := mixed(200, 1)
	had := bytes.Clone(all)
	b := all[:20]
	want := slices.Concat(had[:20], slowBytes(had[:20], had[10:40], had[20:150], had[:200]))
	if got := Bytes(b, b, all[10:40], all[20:150], all); !bytes.Equal(got, want) || !bytes.Equal(all, had) {
		t.Error("R4: Bytes of parts that share memory with the bytes ahead of them")
	}
}
