package grants

import (
	"bytes"
	"errors"
	"slices"
	"sync"
	"testing"

	"chatelaine/api"
)

// told is what a call answers beside its error.
type told struct {
	list  []api.Grant
	token []byte
	grant api.Grant
	id    int
	yes   bool
}

func (a told) same(b told) bool {
	return slices.Equal(a.list, b.list) && bytes.Equal(a.token, b.token) && a.grant == b.grant && a.id == b.id && a.yes == b.yes
}

// copied is what was told, with memory of its own.
func (a told) copied() told {
	a.list, a.token = slices.Clone(a.list), bytes.Clone(a.token)
	return a
}

// overwrite changes all that was told, and the spare room behind it.
func (a told) overwrite() {
	overwriteList(a.list)
	overwrite(a.token)
}

func overwrite(b []byte) {
	for i := range b[:cap(b)] {
		b[:cap(b)][i] ^= 255
	}
}

func overwriteList(l []api.Grant) {
	for i := range l[:cap(l)] {
		l[:cap(l)][i] = api.Grant{ID: -1, Key: -2, To: -3, Ops: -4, Until: -5, Revoked: true}
	}
}

// given is what is handed in to a call: a list, and bytes.
type given struct {
	list          []api.Grant
	secret, token []byte
}

// copied is a copy of what is given, without spare room.
func (g given) copied() given {
	return given{slices.Clone(g.list), bytes.Clone(g.secret), bytes.Clone(g.token)}
}

// whole is a copy of what is given, with all that stands in spare room.
func (g given) whole() given {
	return given{slices.Clone(g.list[:cap(g.list)]), bytes.Clone(g.secret[:cap(g.secret)]), bytes.Clone(g.token[:cap(g.token)])}
}

// withRoom is a copy of what is given, with these grants in the list's spare room, and bytes in that of the others.
func (g given) withRoom(spare []api.Grant) given {
	return given{slices.Concat(g.list, spare)[:len(g.list)], slices.Concat(g.secret, some(40, 1))[:len(g.secret)], slices.Concat(g.token, some(40, 2))[:len(g.token)]}
}

// stays tells whether g is what it was, and what stands in its spare room.
func (g given) stays(had given) bool {
	now := g.whole()
	return slices.Equal(now.list, had.list) && bytes.Equal(now.secret, had.secret) && bytes.Equal(now.token, had.token)
}

func (g given) overwrite() {
	overwriteList(g.list)
	overwrite(g.secret)
	overwrite(g.token)
}

// call is one call, with what it is asked of, and what is answered, as an Errno.
type call struct {
	name string
	in   given
	want api.Errno
	ask  func(in given) (told, error)
}

func mayCall(name string, l []api.Grant) call {
	return call{"May of " + name, given{list: l}, api.OK, func(in given) (told, error) { return told{yes: May(in.list)}, nil }}
}

func addCall(name string, l []api.Grant, g api.Grant, want api.Errno) call {
	return call{"Add to " + name, given{list: l}, want, func(in given) (told, error) {
		more, id, e := Add(in.list, g)
		return told{list: more, id: id}, e
	}}
}

func revokeCall(name string, l []api.Grant, id int, want api.Errno) call {
	return call{"Revoke in " + name, given{list: l}, want, func(in given) (told, error) {
		other, e := Revoke(in.list, id)
		return told{list: other}, e
	}}
}

func tokenCall(name string, secret []byte, g api.Grant) call {
	return call{"Token of " + name, given{secret: secret}, api.OK, func(in given) (told, error) { return told{token: Token(in.secret, g)}, nil }}
}

func checkCall(name string, l []api.Grant, secret, token []byte, want api.Errno) call {
	return call{"Check of " + name, given{l, secret, token}, want, func(in given) (told, error) {
		g, e := Check(in.list, in.secret, in.token)
		return told{grant: g}, e
	}}
}

func allowsCall(name string, g api.Grant, key, who, op, clock int, want api.Errno) call {
	return call{"Allows of " + name, given{}, want, func(given) (told, error) { return told{}, Allows(g, key, who, op, clock) }}
}

// answers are calls that answer no error.
func answers() []call {
	var found []call
	for name, l := range map[string][]api.Grant{"a full list": full(), "a short list": full()[:3], "one grant": full()[:1], "no grants": nil, "grants that are alike": alike(6), "a list that may not be": full()[1:], "a list too long": alike(9)} {
		found = append(found, mayCall(name, l))
		if !May(l) {
			continue
		}
		if len(l) < api.MaxGrants {
			found = append(found, addCall(name, l, full()[4], api.OK), addCall(name, l, full()[2], api.OK))
		}
		for i, g := range l {
			if !g.Revoked {
				found = append(found, revokeCall(name, l, i+1, api.OK))
			}
			for _, secret := range [][]byte{nil, some(32, 3), some(200, 4)} {
				found = append(found, tokenCall(name, secret, g), checkCall(name, l, secret, Token(secret, g), api.OK))
			}
		}
	}
	return append(found, tokenCall("no grant", some(32, 5), api.Grant{}), tokenCall("odd numbers", some(1, 6), api.Grant{ID: -1, Key: -2}), allowsCall("a grant", full()[4], 2, 3, api.OpOpen, 50, api.OK))
}

// refused are calls that answer an error.
func refused() []call {
	wrong, secret := full()[1:], some(32, 3)
	token := Token(secret, full()[1])
	return []call{
		addCall("a list that may not be", wrong, full()[0], api.ErrArg), addCall("a list too long", alike(9), full()[0], api.ErrArg), addCall("a list, of no grant", full()[:3], api.Grant{}, api.ErrArg),
		addCall("no grants, of no grant", nil, api.Grant{ID: 1}, api.ErrArg), addCall("a full list, of no grant", full(), api.Grant{}, api.ErrArg), addCall("a full list", full(), full()[7], api.ErrFull),
		revokeCall("a list that may not be", wrong, 1, api.ErrArg), revokeCall("a list too long", alike(9), 1, api.ErrArg), revokeCall("no grants", nil, 1, api.ErrNone),
		revokeCall("a list without it", full(), 9, api.ErrNone), revokeCall("a list, 0", full(), 0, api.ErrNone), revokeCall("a list, twice", full(), 3, api.ErrState),
		checkCall("a list that may not be", wrong, secret, token, api.ErrArg), checkCall("a list too long, no token", alike(9), secret, nil, api.ErrArg), checkCall("no token", full(), secret, nil, api.ErrToken),
		checkCall("a short token", full(), secret, token[:32], api.ErrToken), checkCall("a long token", full(), secret, append(token, 0), api.ErrToken), checkCall("another secret", full(), secret[1:], token, api.ErrToken),
		checkCall("no grants", nil, secret, token, api.ErrToken), checkCall("fewer grants", full()[:1], secret, token, api.ErrToken), checkCall("another first byte", full(), secret, append([]byte{3}, token[1:]...), api.ErrToken),
		allowsCall("a Revoked grant", full()[5], 2, 3, api.OpOpen, 50, api.ErrDeny), allowsCall("another key", full()[4], 1, 3, api.OpOpen, 50, api.ErrDeny), allowsCall("another person", full()[4], 2, 2, api.OpOpen, 50, api.ErrDeny),
		allowsCall("another op", full()[4], 2, 3, api.OpSeal, 50, api.ErrDeny), allowsCall("no op", full()[4], 2, 3, -1, 50, api.ErrDeny), allowsCall("a late clock", full()[4], 2, 3, api.OpOpen, 51, api.ErrDeny),
	}
}

func every() []call { return append(answers(), refused()...) }

// Each error wraps a Fault of the Errno that is named and of no other; beside it there is nothing.
func TestErrors(t *testing.T) {
	for _, c := range refused() {
		got, e := c.ask(c.in)
		var fault *api.Fault
		if !errors.As(e, &fault) || fault.Code != c.want || !errors.Is(e, c.want) || api.Code(e) != c.want {
			t.Errorf("P19.1: %s: %v is no Fault of %v", c.name, e, c.want)
			continue
		}
		for other := api.OK; other <= api.ErrWait; other++ {
			if other != c.want && errors.Is(e, other) {
				t.Errorf("P19.1: %s: %v is told to be %v too", c.name, e, other)
			}
		}
		if !got.same(told{}) {
			t.Errorf("R2: %s tells %v beside an error", c.name, got)
		}
		if inner := errors.Unwrap(e); inner == nil || !errors.Is(inner, fault) || e.Error() == fault.Error() {
			t.Errorf("P19.1: %s: %v does not wrap its Fault", c.name, e)
		}
	}
}

// A Fault that is written over stays what other answers have.
func TestErrorsAreNew(t *testing.T) {
	for _, c := range refused() {
		var fault *api.Fault
		_, first := c.ask(c.in)
		_, kept := c.ask(c.in)
		if errors.As(first, &fault) {
			fault.Code = api.ErrWait
		}
		if _, again := c.ask(c.in); !is(kept, c.want) || !is(again, c.want) {
			t.Errorf("R4: errors of %s share memory", c.name)
		}
	}
}

// check asks c of in, and tells what was answered; it is to be want, and in is to stay.
func (c call) check(t *testing.T, rule string, in given, want told) told {
	t.Helper()
	had := in.whole()
	got, e := c.ask(in)
	if !is(e, c.want) || !got.same(want) {
		t.Errorf("%s: %s is another answer: %v, %v", rule, c.name, got, e)
	}
	if !in.stays(had) {
		t.Errorf("R4: %s changes what it was given, or its spare room", c.name)
	}
	return got
}

// first is what c is answered of what nobody else has.
func (c call) first() told {
	got, _ := c.ask(c.in.copied())
	return got.copied()
}

// spares are grants that stand in spare room: none, and those that might stand there.
func spares(l []api.Grant) [][]api.Grant {
	next := full()[4]
	next.ID = len(l) + 1
	return [][]api.Grant{make([]api.Grant, 9), slices.Repeat([]api.Grant{next}, 9), slices.Repeat([]api.Grant{{ID: -1, Key: 99}}, 9)}
}

// What stands in spare room counts for nothing, and stays; neither of two answers shares memory with the other, nor with what was handed in.
func TestWhatIsHandedInAndAnswered(t *testing.T) {
	for _, c := range every() {
		want := c.first()
		for _, spare := range spares(c.in.list) {
			in := c.in.withRoom(spare)
			had := in.whole()
			got := c.check(t, "R5", in, want)
			again := c.check(t, "R5", in, want)
			again.overwrite()
			if !in.stays(had) || !got.same(want) {
				t.Errorf("R4: what %s tells shares memory with what it was given, or told", c.name)
			}
			c.check(t, "R5, what was told written over", in, want)
			in.overwrite()
			if !got.same(want) {
				t.Errorf("R4: what %s tells is changed with what it was given", c.name)
			}
		}
		c.check(t, "R5", c.in, want)
	}
}

// A token that is the secret's own spare room, or a piece of it, is asked for like any other.
func TestTokenBesideItsSecret(t *testing.T) {
	b := slices.Concat(some(32, 3), Token(some(32, 3), full()[1]))
	got, e := Check(full(), b[:32], b[32:])
	if e != nil || got != full()[1] || !bytes.Equal(Token(b[:32], full()[1]), b[32:]) {
		t.Errorf("R5: Check of a token behind its secret: %v, %v", got, e)
	}
	if !bytes.Equal(b, slices.Concat(some(32, 3), Token(some(32, 3), full()[1]))) {
		t.Error("R4: Check, or Token, changes a secret's spare room")
	}
}

// Two grants added to one list stand each in a list of its own, also where there is room behind; so do those that are Revoked.
func TestTwoOfOneList(t *testing.T) {
	l := given{list: full()[:5]}.withRoom(make([]api.Grant, 9)).list
	a, first, _ := Add(l, full()[6])
	b, second, _ := Add(l, full()[7])
	if first != 6 || second != 6 || a[5].Key != 3 || b[5].Key != 5 || l[:6][5] != (api.Grant{}) {
		t.Errorf("R4: lists of Add share memory: %v, %v", a, b)
	}
	c, _ := Revoke(a, 6)
	d, _ := Revoke(a, 1)
	if !c[5].Revoked || c[0].Revoked || d[5].Revoked || !d[0].Revoked || a[5].Revoked || a[0].Revoked || !slices.Equal(l, full()[:5]) {
		t.Errorf("R4: lists of Revoke share memory: %v, %v", c, d)
	}
}

// What was refused, and what was answered, leaves each other call as it was.
func TestAskedAgainBehindOthers(t *testing.T) {
	all := every()
	var want []told
	for _, c := range all {
		want = append(want, c.first())
	}
	for i, c := range slices.Backward(all) {
		c.check(t, "R5, behind others", c.in, want[i])
	}
}

func TestManyAtOnce(t *testing.T) {
	for _, c := range every() {
		want := c.first()
		var all sync.WaitGroup
		for range 8 {
			all.Go(func() {
				for range 3 {
					c.check(t, "R5, beside other calls", c.in, want)
				}
			})
		}
		all.Wait()
	}
}

func BenchmarkToken(b *testing.B) {
	secret, g := some(32, 3), full()[1]
	for b.Loop() {
		Token(secret, g)
	}
}

func BenchmarkCheck(b *testing.B) {
	l, secret := full(), some(32, 3)
	token := Token(secret, l[7])
	for b.Loop() {
		Check(l, secret, token)
	}
}
