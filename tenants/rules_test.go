package tenants

import (
	"errors"
	"slices"
	"strings"
	"sync"
	"testing"

	"chatelaine/api"
)

// told is what a call answers beside its error.
type told struct {
	list []api.Tenant
	path []int
	id   int
	yes  bool
}

func (a told) same(b told) bool {
	return slices.Equal(a.list, b.list) && slices.Equal(a.path, b.path) && a.id == b.id && a.yes == b.yes
}

// copied is what was told, with memory of its own.
func (a told) copied() told {
	a.list, a.path = slices.Clone(a.list), slices.Clone(a.path)
	return a
}

// overwrite changes all that was told, and the spare room behind it.
func (a told) overwrite() {
	overwrite(a.list)
	for i := range a.path[:cap(a.path)] {
		a.path[:cap(a.path)][i] ^= 255
	}
}

func overwrite(l []api.Tenant) {
	for i := range l[:cap(l)] {
		l[:cap(l)][i] = api.Tenant{ID: -1, Parent: -2, Name: "written over"}
	}
}

// call is one call, with the list that it is asked of, and what is answered, as an Errno.
type call struct {
	name string
	in   []api.Tenant
	want api.Errno
	ask  func(l []api.Tenant) (told, error)
}

func mayCall(name string, l []api.Tenant) call {
	return call{"May of " + name, l, api.OK, func(l []api.Tenant) (told, error) { return told{yes: May(l)}, nil }}
}

func aboveCall(name string, l []api.Tenant, a, b int) call {
	return call{"Above of " + name, l, api.OK, func(l []api.Tenant) (told, error) { return told{yes: Above(l, a, b)}, nil }}
}

func pathCall(name string, l []api.Tenant, a int) call {
	return call{"Path of " + name, l, api.OK, func(l []api.Tenant) (told, error) { return told{path: Path(l, a)}, nil }}
}

func addCall(name string, l []api.Tenant, parent int, child string, want api.Errno) call {
	return call{"Add of " + name, l, want, func(l []api.Tenant) (told, error) {
		more, id, e := Add(l, parent, child)
		return told{list: more, id: id}, e
	}}
}

// answers are calls that answer no error.
func answers() []call {
	var found []call
	for name, l := range map[string][]api.Tenant{"a line": line(), "one above all": star(), "a tree": mixed(), "one tenant": under(0), "none": nil, "a list that may not be": under(0, 2), "a list too long": under(0, 1, 1, 1, 1, 1, 1, 1, 1)} {
		found = append(found, mayCall(name, l))
		for a := range 10 {
			found = append(found, pathCall(name, l, a), aboveCall(name, l, a, a), aboveCall(name, l, 1, a), aboveCall(name, l, a, 5))
		}
	}
	for name, l := range map[string][]api.Tenant{"a line": line()[:7], "one above all": star()[:7], "a tree": mixed()[:5], "one tenant": under(0)} {
		found = append(found, addCall(name, l, 1, "new", api.OK), addCall(name, l, len(l), "\xff", api.OK), addCall(name, l, len(l), strings.Repeat("n", 300), api.OK))
	}
	return found
}

// refused are calls that answer an error.
func refused() []call {
	return []call{
		addCall("a list that may not be", under(0, 2), 1, "new", api.ErrArg),
		addCall("a list that may not be, no parent", under(0, 2), 0, "", api.ErrArg),
		addCall("a list too long", under(0, 1, 1, 1, 1, 1, 1, 1, 1), 1, "new", api.ErrArg),
		addCall("no parent", mixed()[:5], 6, "new", api.ErrNone),
		addCall("no parent, 0", mixed()[:5], 0, "new", api.ErrNone),
		addCall("no tenants", nil, 0, "new", api.ErrNone),
		addCall("no name", mixed()[:5], 1, "", api.ErrArg),
		addCall("a long name", mixed()[:5], 1, strings.Repeat("n", 301), api.ErrArg),
		addCall("a name that is there", mixed()[:5], 1, "t2", api.ErrTwice),
		addCall("a name that is there, full", mixed(), 1, "t2", api.ErrTwice),
		addCall("a full list", mixed(), 1, "new", api.ErrFull),
	}
}

func every() []call { return append(answers(), refused()...) }

// Each error wraps a Fault of the Errno that is named and of no other; beside it there is nothing.
func TestErrors(t *testing.T) {
	for _, c := range refused() {
		got, e := c.ask(c.in)
		var fault *api.Fault
		if !errors.As(e, &fault) || fault.Code != c.want || !errors.Is(e, c.want) || api.Code(e) != c.want {
			t.Errorf("P16.1: %s: %v is no Fault of %v", c.name, e, c.want)
			continue
		}
		for other := api.OK; other <= api.ErrWait; other++ {
			if other != c.want && errors.Is(e, other) {
				t.Errorf("P16.1: %s: %v is told to be %v too", c.name, e, other)
			}
		}
		if !got.same(told{}) {
			t.Errorf("R2: %s tells %v beside an error", c.name, got)
		}
		if inner := errors.Unwrap(e); inner == nil || !errors.Is(inner, fault) || e.Error() == fault.Error() {
			t.Errorf("P16.1: %s: %v does not wrap its Fault", c.name, e)
		}
	}
}

// A Fault that is written over stays what other answers have.
func TestErrorsAreNew(t *testing.T) {
	for _, c := range refused() {
		var fault *api.Fault
		_, first := c.ask(c.in)
		_, kept := c.ask(c.in)
		if errors.As(first, &fault) {
			fault.Code = api.ErrWait
		}
		if _, again := c.ask(c.in); !is(kept, c.want) || !is(again, c.want) {
			t.Errorf("R4: errors of %s share memory", c.name)
		}
	}
}

// withRoom is a copy of a list, with spare room behind it, which holds these tenants.
func withRoom(l, spare []api.Tenant) []api.Tenant {
	return slices.Concat(l, spare)[:len(l)]
}

// whole is a copy of a list, with its spare room.
func whole(l []api.Tenant) []api.Tenant { return slices.Clone(l[:cap(l)]) }

// check asks c of in, and tells what was answered; it is to be want, and in is to stay.
func (c call) check(t *testing.T, rule string, in []api.Tenant, want told) told {
	t.Helper()
	had := whole(in)
	got, e := c.ask(in)
	if !is(e, c.want) || !got.same(want) {
		t.Errorf("%s: %s is another answer: %v, %v", rule, c.name, got, e)
	}
	if !slices.Equal(whole(in), had) {
		t.Errorf("R4: %s changes what it was given, or its spare room", c.name)
	}
	return got
}

// first is what c is answered of a list that nobody else has.
func (c call) first() told {
	got, _ := c.ask(slices.Clone(c.in))
	return got.copied()
}

// spares are tenants that stand in spare room: none, and those that might stand there.
func spares(l []api.Tenant) [][]api.Tenant {
	next := api.Tenant{ID: len(l) + 1, Parent: 1, Name: "new"}
	return [][]api.Tenant{make([]api.Tenant, 9), slices.Repeat([]api.Tenant{next}, 9), slices.Repeat([]api.Tenant{{ID: -1, Parent: 99, Name: "none"}}, 9)}
}

// What stands in spare room counts for nothing, and stays; neither of two answers shares memory with the other, nor with what was handed in.
func TestWhatIsHandedInAndAnswered(t *testing.T) {
	for _, c := range every() {
		want := c.first()
		for _, spare := range spares(c.in) {
			in := withRoom(c.in, spare)
			had := whole(in)
			got := c.check(t, "R5", in, want)
			again := c.check(t, "R5", in, want)
			again.overwrite()
			if !slices.Equal(whole(in), had) || !got.same(want) {
				t.Errorf("R4: what %s tells shares memory with what it was given, or told", c.name)
			}
			c.check(t, "R5, what was told written over", in, want)
			overwrite(in)
			if !got.same(want) {
				t.Errorf("R4: what %s tells is changed with what it was given", c.name)
			}
		}
		c.check(t, "R5", c.in, want)
	}
}

// Two children added to one list stand each in a list of its own, also where there is room behind.
func TestTwoAddedToOneList(t *testing.T) {
	l := withRoom(star()[:5], make([]api.Tenant, 9))
	a, first, _ := Add(l, 1, "a")
	b, second, _ := Add(l, 2, "b")
	if first != 6 || second != 6 || a[5] != (api.Tenant{ID: 6, Parent: 1, Name: "a"}) || b[5] != (api.Tenant{ID: 6, Parent: 2, Name: "b"}) || l[:6][5] != (api.Tenant{}) {
		t.Errorf("R4: lists of Add share memory: %v, %v", a, b)
	}
	c, _, _ := Add(a, 6, "c")
	d, _, _ := Add(a, 6, "d")
	if c[6].Name != "c" || d[6].Name != "d" || !slices.Equal(c[:6], a) || !slices.Equal(d[:6], a) || len(a) != 6 {
		t.Errorf("R4: lists of Add share memory with what they grew from: %v, %v", c, d)
	}
}

// What was refused, and what was answered, leaves each other call as it was.
func TestAskedAgainBehindOthers(t *testing.T) {
	all := every()
	var want []told
	for _, c := range all {
		want = append(want, c.first())
	}
	for i, c := range slices.Backward(all) {
		c.check(t, "R5, behind others", c.in, want[i])
	}
}

func TestManyAtOnce(t *testing.T) {
	for _, c := range every() {
		want := c.first()
		var all sync.WaitGroup
		for range 8 {
			all.Go(func() {
				for range 3 {
					c.check(t, "R5, beside other calls", c.in, want)
				}
			})
		}
		all.Wait()
	}
}

func BenchmarkAdd(b *testing.B) {
	l := star()[:7]
	for b.Loop() {
		Add(l, 1, "new")
	}
}

func BenchmarkPath(b *testing.B) {
	l := line()
	for b.Loop() {
		Path(l, 8)
	}
}
