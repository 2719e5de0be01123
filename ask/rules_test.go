package ask

import (
	"bytes"
	"errors"
	"slices"
	"strconv"
	"sync"
	"testing"

	"chatelaine/api"
)

// call is one call, with the lists that it is asked of (a request's Bytes and Token first), and what is answered, as an Errno.
type call struct {
	name string
	in   [][]byte
	want api.Errno
	ask  func(in [][]byte) ([][]byte, error)
}

// holding is a request with these Bytes and Token, and not copies of them.
func holding(a api.Ask, in [][]byte) api.Ask {
	a.Bytes, a.Token = in[0], in[1]
	return a
}

func yesOrNo(yes bool) [][]byte { return [][]byte{[]byte(strconv.FormatBool(yes))} }

func mayCall(name string, a api.Ask) call {
	return call{"May of " + name, [][]byte{a.Bytes, a.Token}, api.OK, func(in [][]byte) ([][]byte, error) {
		return yesOrNo(May(holding(a, in))), nil
	}}
}

func sameCall(name string, a, b api.Ask) call {
	return call{"Same of " + name, [][]byte{a.Bytes, a.Token, b.Bytes, b.Token}, api.OK, func(in [][]byte) ([][]byte, error) {
		return yesOrNo(Same(holding(a, in), holding(b, in[2:]))), nil
	}}
}

func bodyCall(name string, a api.Ask, want api.Errno) call {
	return call{"Body of " + name, [][]byte{a.Bytes, a.Token}, want, func(in [][]byte) ([][]byte, error) {
		b, e := Body(holding(a, in))
		return [][]byte{b}, e
	}}
}

func signedCall(name string, a api.Ask, signing, random []byte, want api.Errno) call {
	return call{"Signed with " + name, [][]byte{a.Bytes, a.Token, signing, random}, want, func(in [][]byte) ([][]byte, error) {
		b, e := Signed(holding(a, in), in[2], in[3])
		return [][]byte{b}, e
	}}
}

// readCall tells what Read does, and behind it a copy of the request's numbers and name (of zero values: nothing).
func readCall(name string, b []byte, want api.Errno) call {
	return call{"Read of " + name, [][]byte{b}, want, func(in [][]byte) ([][]byte, error) {
		a, body, sig, e := Read(in[0])
		rest := bytes.TrimRight(slowBody(holding(a, make([][]byte, 2))), "\x00")
		return [][]byte{a.Bytes, a.Token, body, sig, rest}, e
	}}
}

// answers are calls that answer no error.
func answers() []call {
	keys, odd := keysOf(1), with(good(), func(a *api.Ask) { a.Who = 7 })
	found := []call{mayCall("no request", odd), sameCall("unlike requests", good(), odd), sameCall("great requests", greatest(), copied(greatest())), sameCall("no requests", odd, copied(odd))}
	for name, a := range map[string]api.Ask{"a request": good(), "the least": least(), "the greatest": greatest()} {
		found = append(found, mayCall(name, a), bodyCall(name, a, api.OK), signedCall(name, a, keys.signing, mixed(32, 1), api.OK), sameCall(name, a, copied(a)),
			readCall(name, signedBy(keys, a, mixed(32, 2)), api.OK), readCall(name+" with any signature", sealed(slowBody(a)), api.OK))
	}
	return found
}

// refused are calls that answer an error.
func refused() []call {
	var found []call
	for _, x := range refusals() {
		found = append(found, signedCall(x.name, x.a, x.signing, x.random, x.want))
	}
	for _, x := range fields() {
		wrong := x.put(good(), x.hi+1)
		found = append(found, bodyCall("a wrong "+x.name, wrong, api.ErrArg), readCall("a wrong "+x.name, sealed(slowBody(wrong)), api.ErrForm))
	}
	for _, x := range parts() {
		wrong := x.put(good(), mixed(x.most+1, 1))
		found = append(found, bodyCall("a long "+x.name, wrong, api.ErrArg), readCall("a long "+x.name, sealed(slowBody(wrong)), api.ErrForm))
	}
	body := slowBody(good())
	return append(found, readCall("nothing", nil, api.ErrSize), readCall("no signature", mixed(2419, 1), api.ErrSize), readCall("too many", mixed(6001, 1), api.ErrSize), readCall("no body", mixed(2420, 1), api.ErrForm),
		readCall("a byte fewer", sealed(body[:len(body)-1]), api.ErrForm), readCall("a byte more", sealed(append(bytes.Clone(body), 0)), api.ErrForm))
}

func every() []call { return append(answers(), refused()...) }

// Each error wraps a Fault of the Errno that is named and of no other; beside it there is nothing.
func TestErrors(t *testing.T) {
	for _, c := range refused() {
		told, e := c.ask(c.in)
		var fault *api.Fault
		if !errors.As(e, &fault) || fault.Code != c.want || !errors.Is(e, c.want) || api.Code(e) != c.want {
			t.Errorf("P15.1: %s: %v is no Fault of %v", c.name, e, c.want)
			continue
		}
		for other := api.OK; other <= api.ErrWait; other++ {
			if other != c.want && errors.Is(e, other) {
				t.Errorf("P15.1: %s: %v is told to be %v too", c.name, e, other)
			}
		}
		if len(slices.Concat(told...)) != 0 {
			t.Errorf("R2: %s tells %v beside an error", c.name, told)
		}
		if inner := errors.Unwrap(e); inner == nil || !errors.Is(inner, fault) || e.Error() == fault.Error() {
			t.Errorf("P15.1: %s: %v does not wrap its Fault", c.name, e)
		}
	}
}

// A Fault that is written over stays what other answers have.
func TestErrorsAreNew(t *testing.T) {
	for _, c := range refused() {
		var fault *api.Fault
		_, first := c.ask(c.in)
		_, kept := c.ask(c.in)
		if errors.As(first, &fault) {
			fault.Code = api.ErrWait
		}
		if _, again := c.ask(c.in); !is(kept, c.want) || !is(again, c.want) {
			t.Errorf("R4: errors of %s share memory", c.name)
		}
	}
}

// withRoom are copies of lists, each with spare room behind it, which holds marks.
func withRoom(lists [][]byte, mark byte) [][]byte {
	var found [][]byte
	for _, b := range lists {
		found = append(found, slices.Concat(b, slices.Repeat([]byte{mark}, 3000))[:len(b)])
	}
	return found
}

// whole is a copy of lists, with their spare room.
func whole(lists [][]byte) [][]byte {
	var found [][]byte
	for _, b := range lists {
		found = append(found, bytes.Clone(b[:cap(b)]))
	}
	return found
}

func overwrite(lists ...[]byte) {
	for _, b := range lists {
		for i := range b[:cap(b)] {
			b[:cap(b)][i] ^= 255
		}
	}
}

func sameLists(a [][]byte, b [][]byte) bool { return slices.EqualFunc(a, b, bytes.Equal) }

// checkCall asks c of in, and tells what was answered; it is to be want, and in is to stay.
func (c call) checkCall(t *testing.T, rule string, in [][]byte, want [][]byte) [][]byte {
	t.Helper()
	had := whole(in)
	told, e := c.ask(in)
	if !is(e, c.want) || !sameLists(told, want) {
		t.Errorf("%s: %s is another answer: %v", rule, c.name, e)
	}
	if !sameLists(whole(in), had) {
		t.Errorf("R4: %s changes what it was given, or its spare room", c.name)
	}
	return told
}

// first is what c is answered of lists that nobody else has.
func (c call) first() [][]byte {
	told, _ := c.ask(clones(c.in))
	return clones(told)
}

func clones(lists [][]byte) [][]byte {
	found := slices.Clone(lists)
	for i, b := range found {
		found[i] = bytes.Clone(b)
	}
	return found
}

// What stands in spare room counts for nothing, and stays; neither of two answers shares memory with the other, nor with what was handed in.
func TestWhatIsHandedInAndAnswered(t *testing.T) {
	for _, c := range every() {
		want := c.first()
		for _, mark := range []byte{0, 77, 255} {
			in := withRoom(c.in, mark)
			had := whole(in)
			told := c.checkCall(t, "R5", in, want)
			again := c.checkCall(t, "R5", in, want)
			overwrite(again...)
			if !sameLists(whole(in), had) || !sameLists(told, want) {
				t.Errorf("R4: what %s tells shares memory with what it was given, or told", c.name)
			}
			overwrite(in...)
			if !sameLists(told, want) {
				t.Errorf("R4: what %s tells is changed with what it was given", c.name)
			}
		}
		c.checkCall(t, "R5", c.in, want)
	}
}

// What Read tells written over changes nothing that Read tells the next time; and each list of an answer is on its own, its spare room too.
func TestWhatReadTellsIsNew(t *testing.T) {
	for _, a := range []api.Ask{good(), least(), greatest()} {
		b := sealed(slowBody(a))
		for changed := range 4 {
			got, body, sig, e := Read(b)
			lists := [][]byte{got.Bytes, got.Token, body, sig}
			want := clones(lists)
			overwrite(lists[changed])
			for i := range lists {
				if i != changed && !bytes.Equal(lists[i], want[i]) {
					t.Errorf("R4: lists %d and %d of what Read tells share memory: %v", changed, i, e)
				}
			}
			checkRead(t, "what was read, and written over", b, api.OK)
		}
		if !bytes.Equal(b, sealed(slowBody(a))) {
			t.Error("R4: what Read tells shares memory with what was handed in")
		}
	}
}

// One list for several of what is asked is as good as lists that are alike.
func TestListsThatShareMemory(t *testing.T) {
	keys, one := keysOf(1), mixed(32, 1)
	a := holding(good(), [][]byte{one, one})
	want := signedBy(keys, holding(good(), [][]byte{bytes.Clone(one), bytes.Clone(one)}), bytes.Clone(one))
	if got, e := Signed(a, keys.signing, one); e != nil || !bytes.Equal(got, want) || !bytes.Equal(one, mixed(32, 1)) {
		t.Errorf("R4: Signed of one list for all: %v", e)
	}
	if got, e := Signed(holding(good(), [][]byte{keys.signing[:2000], keys.signing[100:200]}), keys.signing, one); e != nil || !is(readError(got), api.OK) {
		t.Errorf("R4: Signed of a request with pieces of the key: %v", e)
	}
	if !bytes.Equal(keys.signing, keysOf(1).signing) {
		t.Error("R4: Signed changes the key of which the request has pieces")
	}
}

func readError(b []byte) error {
	_, _, _, e := Read(b)
	return e
}

// What was refused, and what was answered, leaves each other call as it was.
func TestAskedAgainBehindOthers(t *testing.T) {
	all := every()
	var want [][][]byte
	for _, c := range all {
		want = append(want, c.first())
	}
	for i, c := range slices.Backward(all) {
		c.checkCall(t, "R5, behind others", c.in, want[i])
	}
}

func TestManyAtOnce(t *testing.T) {
	for _, c := range every() {
		want := c.first()
		var all sync.WaitGroup
		for range 8 {
			all.Go(func() {
				for range 3 {
					c.checkCall(t, "R5, beside other calls", c.in, want)
				}
			})
		}
		all.Wait()
	}
}

func BenchmarkBody(b *testing.B) {
	a := greatest()
	for b.Loop() {
		Body(a)
	}
}

func BenchmarkSigned(b *testing.B) {
	keys, a, random := keysOf(1), greatest(), mixed(32, 1)
	for b.Loop() {
		Signed(a, keys.signing, random)
	}
}

func BenchmarkRead(b *testing.B) {
	laid := sealed(slowBody(greatest()))
	b.SetBytes(int64(len(laid)))
	for b.Loop() {
		Read(laid)
	}
}
