package code

import (
	"bytes"
	"errors"
	"math"
	"slices"
	"sync"
	"testing"

	"chatelaine/api"
)

// A reader tells what it was made of, whatever becomes of those bytes, ahead of the first call or between two.
func TestReaderKeepsBytesOfItsOwn(t *testing.T) {
	for n := range 4 {
		in := withMarks(Bytes(Number(nil, 7, 8), []byte("one"), []byte("two")))
		had, r := whole(in), New(in)
		reads := []func() bool{
			func() bool { return r.Number(7, 7) == 7 },
			func() bool { return r.Number(8, 8) == 8 },
			func() bool { return string(r.Bytes(3)) == "one" },
			func() bool { return r.Text(3) == "two" },
		}
		for i, read := range reads {
			if i == n {
				if !bytes.Equal(whole(in), had) {
					t.Errorf("R4: a reader changes what it was made of, or its spare room, within %d calls", n)
				}
				overwrite(in)
			}
			if !read() {
				t.Errorf("R4: call %d of a reader hangs on the bytes that it was made of, written over ahead of call %d", i, n)
			}
		}
		if r.End() != nil {
			t.Error("R4: a reader whose bytes were written over has some left")
		}
	}
}

// Nor does a reader at which something is wrong change what it was made of.
func TestWhatAReaderIsMadeOfStays(t *testing.T) {
	for _, b := range [][]byte{nil, make([]byte, 7), laidSample(), Number(nil, 99), Bytes(nil, mixed(20, 1))[:20]} {
		in := withMarks(b)
		had, r := whole(in), New(in)
		readSample(r)
		r.Bytes(3)
		r.End()
		if !bytes.Equal(whole(in), had) {
			t.Errorf("R4: a reader changes the %d bytes that it was made of, or their spare room", len(b))
		}
	}
}

func TestWhatBytesTellsIsNew(t *testing.T) {
	parts := [][]byte{[]byte("one"), nil, mixed(300, 1), {9}, []byte("two")}
	in := Text(Number(Bytes(nil, parts...), 5), "text")
	had, r := bytes.Clone(in), New(in)
	var told [][]byte
	for i, want := range parts {
		got := r.Bytes(300)
		if !bytes.Equal(got, want) {
			t.Errorf("R4: bytes %d are what others were changed to", i)
		}
		got = got[:cap(got)]
		for n := range got {
			got[n] = byte(100 + i)
		}
		told = append(told, got)
	}
	if r.Number(5, 5) != 5 || r.Text(4) != "text" || r.End() != nil {
		t.Error("R4: what Bytes tells shares memory with the reader")
	}
	for i, got := range told {
		if bytes.Count(got, []byte{byte(100 + i)}) != len(got) {
			t.Errorf("R4: bytes %d, told, were changed later", i)
		}
	}
	if !bytes.Equal(in, had) {
		t.Error("R4: what Bytes tells shares memory with what the reader was made of")
	}
}

func TestReadersAreApart(t *testing.T) {
	in := Bytes(Number(nil, 1, 2), []byte("abc"))
	a, b := New(in), New(in)
	if a.Number(1, 1) != 1 || b.Number(1, 1) != 1 || a.Number(9, 9) != 0 || !wrongNow(a) || !rightNow(b, 19) {
		t.Fatal("R5: what is wrong at one reader is wrong at another one")
	}
	c := New(in)
	if c.Number(1, 1) != 1 || b.Number(2, 2) != 2 || c.Number(2, 2) != 2 {
		t.Error("R5: two readers in turns")
	}
	overwrite(b.Bytes(3))
	if string(c.Bytes(3)) != "abc" || b.End() != nil || c.End() != nil {
		t.Error("R4: two readers of the same bytes share memory")
	}
}

func TestNilReader(t *testing.T) {
	var r *Reader
	for range 2 {
		for _, x := range ends {
			for _, y := range ends {
				if r.Number(x, y) != 0 {
					t.Errorf("R3: Number(%d, %d) of a nil reader", x, y)
				}
			}
			if len(r.Bytes(x)) != 0 || r.Text(x) != "" {
				t.Errorf("R3: Bytes(%d) or Text(%d) of a nil reader", x, x)
			}
		}
		if e := r.End(); r.Left() != 0 || !is(e, api.ErrNil) {
			t.Errorf("R3: Left, End of a nil reader: %d, %v", r.Left(), e)
		}
	}
}

// ending is a reader whose End is an error.
type ending struct {
	name string
	make func() *Reader
	want api.Errno
}

func endings() []ending {
	return []ending{
		{"nil", func() *Reader { return nil }, api.ErrNil},
		{"bytes left", func() *Reader { return New([]byte{1}) }, api.ErrForm},
		{"a number left", func() *Reader { r := New(Number(nil, 5, 6)); r.Number(5, 5); return r }, api.ErrForm},
		{"a wrong number", func() *Reader { r := New(Number(nil, 5)); r.Number(6, 7); return r }, api.ErrForm},
		{"a number too many", func() *Reader { r := New(nil); r.Number(0, 9); return r }, api.ErrForm},
		{"wrong bytes", func() *Reader { r := New(Bytes(nil, []byte("abc"))); r.Bytes(2); return r }, api.ErrForm},
		{"a wrong text", func() *Reader { r := New(Text(nil, "abc")[:10]); r.Text(3); return r }, api.ErrForm},
	}
}

// Each error is a Fault or wraps one, of the Errno that is named and of no other.
func TestErrors(t *testing.T) {
	for _, x := range endings() {
		e := x.make().End()
		var fault *api.Fault
		if !errors.As(e, &fault) || fault.Code != x.want || !errors.Is(e, x.want) || api.Code(e) != x.want {
			t.Errorf("P14.1: End behind %s: %v is no Fault of %v", x.name, e, x.want)
			continue
		}
		for other := api.OK; other <= api.ErrWait; other++ {
			if other != x.want && errors.Is(e, other) {
				t.Errorf("P14.1: End behind %s: %v is told to be %v too", x.name, e, other)
			}
		}
		if e.Error() == "" {
			t.Errorf("P14.1: End behind %s tells nothing in words", x.name)
		}
	}
}

// Errors are wrapped: the call that answers one stands around what it found.
func TestErrorsAreWrapped(t *testing.T) {
	for _, x := range endings() {
		e := x.make().End()
		if _, bare := e.(*api.Fault); bare || !is(errors.Unwrap(e), x.want) {
			t.Errorf("P14.1: End behind %s: %v wraps no Fault", x.name, e)
		}
	}
}

// A Fault that is written over stays what other answers have.
func TestErrorsAreNew(t *testing.T) {
	for _, x := range endings() {
		r := x.make()
		first, kept := r.End(), r.End()
		var fault *api.Fault
		if errors.As(first, &fault) {
			fault.Code = api.ErrWait
		}
		if !is(kept, x.want) || !is(r.End(), x.want) || !is(x.make().End(), x.want) {
			t.Errorf("R4: errors of End behind %s share memory", x.name)
		}
	}
}

func TestAskedAgainBehindOthers(t *testing.T) {
	all, head := layings(), mixed(30, 1)
	for range 2 {
		for _, x := range slices.Backward(all) {
			if got := x.lay(head); !bytes.Equal(got, slices.Concat(head, x.want)) {
				t.Errorf("R5: %s tells another answer behind others", x.name)
			}
		}
		if readSample(New(laidSample())) != len(sample()) || New(laidSample()).Left() != len(laidSample()) {
			t.Error("R5: New tells another reader behind others")
		}
	}
}

func TestManyAtOnce(t *testing.T) {
	head, laid := withMarks(mixed(30, 1)), laidSample()
	var all sync.WaitGroup
	for range 8 {
		all.Go(func() {
			for range 50 {
				for _, x := range layings() {
					if !bytes.Equal(x.lay(head), slices.Concat(head, x.want)) {
						t.Errorf("R5: %s tells another answer beside other calls", x.name)
					}
				}
				if r := New(laid); readSample(r) != len(sample()) || r.End() != nil {
					t.Error("R5: a reader tells another answer beside other readers")
				}
			}
		})
	}
	all.Wait()
}

// Much is read as fast as little: no call goes over all that is left.
func TestMuchIsRead(t *testing.T) {
	const many = 300_000
	ns, parts := make([]int, many), make([][]byte, many)
	for i := range ns {
		ns[i], parts[i] = math.MinInt+i, []byte{byte(i), byte(i >> 8), 9}[:i%4]
	}
	r := New(Bytes(Number(nil, ns...), parts...))
	for i, want := range ns {
		if r.Number(want, want) != want {
			t.Fatalf("P14.1: number %d of many", i)
		}
	}
	for i, want := range parts {
		if !bytes.Equal(r.Bytes(3), want) {
			t.Fatalf("P14.1: bytes %d of many", i)
		}
	}
	if r.End() != nil {
		t.Error("P14.1: some of much is left")
	}
}

func BenchmarkNumber(b *testing.B) {
	ns := make([]int, 100)
	for b.Loop() {
		Number(nil, ns...)
	}
}

func BenchmarkReader(b *testing.B) {
	laid := laidSample()
	b.SetBytes(int64(len(laid)))
	for b.Loop() {
		readSample(New(laid))
	}
}
