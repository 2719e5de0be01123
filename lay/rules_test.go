package lay

import (
	"bytes"
	"errors"
	"slices"
	"sync"
	"testing"

	"chatelaine/api"
)

// lists are all kinds that a call takes or tells.
type lists struct {
	f []int
	b []byte
	h [][]int
}

// call is one call, with what it is asked of, and what is answered, as an Errno.
type call struct {
	name string
	in   lists
	want api.Errno
	ask  func(in lists) (lists, error)
}

func hintsOf(set int) func(in lists) (lists, error) {
	return func(in lists) (lists, error) { b, e := Hints(set, in.h); return lists{b: b}, e }
}

func unhintOf(set int) func(in lists) (lists, error) {
	return func(in lists) (lists, error) { h, e := Unhint(set, in.b); return lists{h: h}, e }
}

func highOf(set int) func(in lists) (lists, error) {
	return func(in lists) (lists, error) { b, e := High(set, in.h); return lists{b: b}, e }
}

// refusals are calls that answer an error.
func refusals() []call {
	var found []call
	for _, p := range rows() {
		forms := slices.Repeat([]byte{255}, p.of.Omega+p.of.K)
		found = append(found,
			call{"Hints of no set", lists{h: zeros(p.of.K)}, api.ErrArg, hintsOf(0)},
			call{"Hints of fewer", lists{h: zeros(p.of.K - 1)}, api.ErrSize, hintsOf(p.set)},
			call{"Hints of numbers", lists{h: slices.Repeat([][]int{filled(2)}, p.of.K)}, api.ErrSize, hintsOf(p.set)},
			call{"Hints of too many", lists{h: slices.Repeat([][]int{filled(1)}, p.of.K)}, api.ErrOver, hintsOf(p.set)},
			call{"Unhint of no set", lists{b: make([]byte, p.of.Omega+p.of.K)}, api.ErrArg, unhintOf(4)},
			call{"Unhint of a size", lists{b: forms[1:]}, api.ErrSize, unhintOf(p.set)},
			call{"Unhint of no hints", lists{b: forms}, api.ErrForm, unhintOf(p.set)},
			call{"Unhint of bytes left", lists{b: p.laid([]byte{1, 2, 3}, 2)}, api.ErrForm, unhintOf(p.set)},
			call{"High of no set", lists{h: zeros(p.of.K)}, api.ErrArg, highOf(-1)},
			call{"High of more", lists{h: zeros(p.of.K + 1)}, api.ErrSize, highOf(p.set)},
			call{"High of numbers", lists{h: slices.Repeat([][]int{filled(p.parts)}, p.of.K)}, api.ErrSize, highOf(p.set)})
	}
	return found
}

// answers are calls that answer no error, those that tell none among them.
func answers() []call {
	var found []call
	for _, x := range bounds() {
		near := func(in lists) (lists, error) { return lists{b: Near(x.a, x.b, in.f)}, nil }
		far := func(in lists) (lists, error) { return lists{f: Far(x.a, x.b, in.b)}, nil }
		found = append(found, call{"Near", lists{f: drawn(x.d, -x.a, x.b)}, api.OK, near}, call{"Far", lists{b: drawnBytes(x.d, 32*x.d)}, api.OK, far},
			call{"Near of no poly", lists{f: filled(0)[1:]}, api.OK, near}, call{"Near of numbers", lists{f: filled(prime / 2)}, api.OK, near},
			call{"Far of a size", lists{b: make([]byte, 32*x.d+1)}, api.OK, far})
	}
	for _, p := range rows() {
		for _, many := range []int{0, 1, p.of.Omega / 2, p.of.Omega} {
			h := p.drawnHints(many, many)
			found = append(found, call{"Hints", lists{h: h}, api.OK, hintsOf(p.set)}, call{"Unhint", lists{b: p.slowHints(h)}, api.OK, unhintOf(p.set)})
		}
		found = append(found, call{"High", lists{h: p.drawnHigh(1)}, api.OK, highOf(p.set)})
	}
	return found
}

// Each error is a Fault or wraps one, of the Errno that is named and of no other; beside it there is nothing.
func TestErrors(t *testing.T) {
	for _, c := range refusals() {
		told, e := c.ask(c.in)
		var fault *api.Fault
		if !errors.As(e, &fault) || fault.Code != c.want || !errors.Is(e, c.want) || api.Code(e) != c.want {
			t.Errorf("P11.3: %s: %v is no Fault of %v", c.name, e, c.want)
			continue
		}
		for other := api.OK; other <= api.ErrWait; other++ {
			if other != c.want && errors.Is(e, other) {
				t.Errorf("P11.3: %s: %v is told to be %v too", c.name, e, other)
			}
		}
		if len(told.f)+len(told.b)+len(told.h) != 0 {
			t.Errorf("R2: %s tells %v beside an error", c.name, told)
		}
		if e.Error() == "" {
			t.Errorf("P11.3: %s tells nothing in words", c.name)
		}
	}
}

// A Fault that is written over stays what other answers have.
func TestErrorsAreNew(t *testing.T) {
	for _, c := range refusals() {
		var fault *api.Fault
		_, first := c.ask(c.in)
		_, kept := c.ask(c.in)
		if errors.As(first, &fault) {
			fault.Code = api.ErrWait
		}
		if _, again := c.ask(c.in); !is(kept, c.want) || !is(again, c.want) {
			t.Errorf("R4: errors of %s share memory", c.name)
		}
	}
}

// withRoom is a list with spare room behind it, which holds marks.
func withRoom[T any](list []T, mark T) []T {
	return slices.Concat(list, slices.Repeat([]T{mark}, 70))[:len(list)]
}

// roomy are the same lists, each with spare room.
func (x lists) roomy() lists {
	h := make([][]int, len(x.h))
	for i, f := range x.h {
		h[i] = withRoom(f, 1)
	}
	return lists{withRoom(x.f, 1), withRoom(x.b, 1), withRoom(h, filled(1))}
}

// whole is a copy of all, with the spare room.
func (x lists) whole() lists {
	var h [][]int
	for _, f := range x.h[:cap(x.h)] {
		h = append(h, slices.Clone(f[:cap(f)]))
	}
	return lists{slices.Clone(x.f[:cap(x.f)]), slices.Clone(x.b[:cap(x.b)]), h}
}

func (x lists) same(y lists) bool {
	return slices.Equal(x.f, y.f) && bytes.Equal(x.b, y.b) && sameLists(x.h, y.h)
}

// copied is a copy of all, without spare room.
func (x lists) copied() lists {
	var h [][]int
	for _, f := range x.h {
		h = append(h, slices.Clone(f))
	}
	return lists{slices.Clone(x.f), slices.Clone(x.b), h}
}

// overwrite puts marks all over, into the spare room too.
func (x lists) overwrite() {
	for i := range x.f[:cap(x.f)] {
		x.f[:cap(x.f)][i] = -99
	}
	for i := range x.b[:cap(x.b)] {
		x.b[:cap(x.b)][i] ^= 255
	}
	for i, f := range x.h[:cap(x.h)] {
		lists{f: f}.overwrite()
		x.h[:cap(x.h)][i] = nil
	}
}

func TestWhatIsHandedInStays(t *testing.T) {
	for _, c := range append(answers(), refusals()...) {
		in := c.in.roomy()
		had := in.whole()
		told, e := c.ask(in)
		if !is(e, c.want) {
			t.Errorf("P11.2, P11.3: %s: %v", c.name, e)
		}
		if !in.whole().same(had) {
			t.Errorf("R4: %s changes what it was given, or its spare room", c.name)
		}
		told.overwrite()
		if !in.whole().same(had) {
			t.Errorf("R4: what %s tells shares memory with what it was given", c.name)
		}
	}
}

func TestAnswersShareNothing(t *testing.T) {
	for _, c := range append(answers(), refusals()...) {
		in := c.in.roomy()
		told, _ := c.ask(in)
		again, e := c.ask(in)
		want := told.copied()
		if !again.same(want) || !is(e, c.want) {
			t.Errorf("R5: %s tells another answer the second time", c.name)
		}
		again.overwrite()
		in.overwrite()
		if !told.same(want) {
			t.Errorf("R4: what %s told is changed later", c.name)
		}
		if last, e := c.ask(c.in.copied()); !last.same(want) || !is(e, c.want) {
			t.Errorf("R5: %s tells another answer, once its lists were written over", c.name)
		}
	}
}

// No two lists of one answer share memory, their spare room neither.
func TestListsOfOneAnswerShareNothing(t *testing.T) {
	for _, c := range answers() {
		told, _ := c.ask(c.in)
		for i := range told.h {
			want := told.copied()
			lists{f: told.h[i]}.overwrite()
			for k := range told.h {
				if k != i && !slices.Equal(told.h[k], want.h[k]) {
					t.Fatalf("R4: lists %d and %d of one answer of %s share memory", i, k, c.name)
				}
			}
		}
	}
}

// Lists that are one and the same list are laid as those that are alike.
func TestOneListForAll(t *testing.T) {
	for _, p := range rows() {
		f := at(5, 1, 0)
		one := slices.Repeat([][]int{f}, p.of.K)
		if b, e := Hints(p.set, one); e != nil || !bytes.Equal(b, p.slowHints(one)) || !slices.Equal(f, at(5, 1, 0)) {
			t.Errorf("P11.3: Hints(%d) of one list for all is %v, %v", p.set, b, e)
		}
		if b, e := High(p.set, one); e != nil || !bytes.Equal(b, p.slowHigh(one)) || !slices.Equal(f, at(5, 1, 0)) {
			t.Errorf("P11.3: High(%d) of one list for all is %v, %v", p.set, b, e)
		}
	}
}

// What was refused, and what was answered, leaves each other call as it was.
func TestAskedAgainBehindOthers(t *testing.T) {
	all := append(answers(), refusals()...)
	var want []lists
	for _, c := range all {
		told, _ := c.ask(c.in)
		want = append(want, told.copied())
	}
	for i, c := range slices.Backward(all) {
		if told, e := c.ask(c.in); !told.same(want[i]) || !is(e, c.want) {
			t.Errorf("R5: %s tells another answer behind others: %v", c.name, e)
		}
	}
}

func TestManyAtOnce(t *testing.T) {
	for _, c := range append(answers(), refusals()...) {
		want, _ := c.ask(c.in)
		var all sync.WaitGroup
		for range 8 {
			all.Go(func() {
				for range 5 {
					if told, e := c.ask(c.in); !told.same(want) || !is(e, c.want) {
						t.Errorf("R5: %s tells another answer beside other calls", c.name)
					}
				}
			})
		}
		all.Wait()
	}
}
