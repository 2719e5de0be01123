package keys

import (
	"bytes"
	"errors"
	"slices"
	"strconv"
	"sync"
	"testing"

	"chatelaine/api"
	"chatelaine/kem"
)

// told is what a call answers beside its error.
type told struct {
	key     api.Key
	version api.Version
	n       int
	c, b    []byte
	yes     bool
}

func (a told) same(b told) bool {
	return same(a.key, b.key) && sameVersion(a.version, b.version) && a.n == b.n && bytes.Equal(a.c, b.c) && bytes.Equal(a.b, b.b) && a.yes == b.yes
}

// copied is what was told, with memory of its own.
func (a told) copied() told {
	a.key, a.version.Seed, a.c, a.b = deep(a.key), bytes.Clone(a.version.Seed), bytes.Clone(a.c), bytes.Clone(a.b)
	return a
}

// overwrite changes all that was told, and the spare room behind it.
func (a told) overwrite() {
	overwrite(a.version.Seed)
	overwrite(a.c)
	overwrite(a.b)
	overwriteKey(a.key)
}

func overwrite(b []byte) {
	for i := range b[:cap(b)] {
		b[:cap(b)][i] ^= 255
	}
}

// overwriteKey changes each seed, and then what holds them.
func overwriteKey(k api.Key) {
	room := k.Versions[:cap(k.Versions)]
	for i, v := range room {
		overwrite(v.Seed)
		room[i] = api.Version{N: -1, State: -2, Due: -3, Seed: []byte("written over")}
	}
}

// given is what is handed in to a call: a key, and bytes.
type given struct {
	key api.Key
	b   []byte
}

// withRoom is a copy of bytes, with spare room behind them.
func withRoom(b []byte) []byte { return slices.Concat(b, some(70, 7))[:len(b)] }

// withRoom is a copy of g, with these versions in the spare room behind its own, and spare room behind all bytes.
func (g given) withRoom(spare []api.Version) given {
	g.key.Versions = slices.Concat(g.key.Versions, spare)[:len(g.key.Versions)]
	g.b = withRoom(g.b)
	for i, v := range g.key.Versions[:cap(g.key.Versions)] {
		g.key.Versions[:cap(g.key.Versions)][i].Seed = withRoom(v.Seed)
	}
	return g
}

// kept is a copy of what was given, and one of that with all that stands in spare room.
type kept struct{ exact, room given }

func (g given) kept() kept {
	room := given{g.key, bytes.Clone(g.b[:cap(g.b)])}
	room.key.Versions = slices.Clone(g.key.Versions[:cap(g.key.Versions)])
	for i, v := range room.key.Versions {
		room.key.Versions[i].Seed = bytes.Clone(v.Seed[:cap(v.Seed)])
	}
	return kept{given{deep(g.key), bytes.Clone(g.b)}, room}
}

func (g given) same(h given) bool { return same(g.key, h.key) && bytes.Equal(g.b, h.b) }

// stays tells whether g is what it was, and what stands in its spare room.
func (g given) stays(had kept) bool {
	now := g.kept()
	return now.exact.same(had.exact) && now.room.same(had.room)
}

func (g given) overwrite() {
	overwrite(g.b)
	overwriteKey(g.key)
}

// call is one call, with what it is asked of, and what is answered, as an Errno.
type call struct {
	name string
	in   given
	want api.Errno
	ask  func(g given) (told, error)
}

func mayCall(name string, k api.Key) call {
	return call{"May of " + name, given{key: k}, api.OK, func(g given) (told, error) { return told{yes: May(g.key)}, nil }}
}

func newCall(name string, id, tenant, set int, seed []byte, want api.Errno) call {
	return call{"New of " + name, given{b: seed}, want, func(g given) (told, error) {
		k, e := New(id, tenant, set, g.b)
		return told{key: k}, e
	}}
}

func rotateCall(name string, k api.Key, seed []byte, want api.Errno) call {
	return call{"Rotate of " + name, given{k, seed}, want, func(g given) (told, error) {
		more, e := Rotate(g.key, g.b)
		return told{key: more}, e
	}}
}

func setCall(name string, k api.Key, op, version, until int, want api.Errno) call {
	return call{"Set of " + name + " by op " + strconv.Itoa(op), given{key: k}, want, func(g given) (told, error) {
		other, e := Set(g.key, op, version, until, 8)
		return told{key: other}, e
	}}
}

func sweepCall(name string, k api.Key, clock int) call {
	return call{"Sweep of " + name, given{key: k}, api.OK, func(g given) (told, error) {
		swept, n := Sweep(g.key, clock)
		return told{key: swept, n: n}, nil
	}}
}

func currentCall(name string, k api.Key) call {
	return call{"Current of " + name, given{key: k}, api.OK, func(g given) (told, error) {
		v, ok := Current(g.key)
		return told{version: v, yes: ok}, nil
	}}
}

func findCall(name string, k api.Key, n int) call {
	return call{"Find of " + name, given{key: k}, api.OK, func(g given) (told, error) {
		v, ok := Find(g.key, n)
		return told{version: v, yes: ok}, nil
	}}
}

func publicCall(name string, k api.Key, n int, want api.Errno) call {
	return call{"Public of " + name, given{key: k}, want, func(g given) (told, error) {
		b, e := Public(g.key, n)
		return told{b: b}, e
	}}
}

func sealCall(name string, k api.Key, m []byte, want api.Errno) call {
	return call{"Seal of " + name, given{k, m}, want, func(g given) (told, error) {
		n, c, secret, e := Seal(g.key, g.b)
		return told{n: n, c: c, b: secret}, e
	}}
}

func openCall(name string, k api.Key, n int, c []byte, want api.Errno) call {
	return call{"Open of " + name, given{k, c}, want, func(g given) (told, error) {
		secret, e := Open(g.key, n, g.b)
		return told{b: secret}, e
	}}
}

// one is a key whose versions share one seed.
func one() api.Key {
	k, seed := keyOf(1, 1, 2, 3), some(64, 3)
	for i := range k.Versions {
		k.Versions[i].Seed = seed
	}
	return k
}

// several are keys that may be, and some that may not.
func several() map[string]api.Key {
	return map[string]api.Key{
		"a key of each state": four(), "a full key": five(), "a key of one version": keyOf(api.Enabled), "a Gone key": keyOf(api.Gone), "a key of one seed": one(), "a Doomed key": doomed(9, 8, 9, 50, 9),
		"no key": {}, "a key of no set": ofSet(four(), 4), "a key of too many versions": keyOf(1, 2, 3, 4, 1, 2), "a Gone key that has a seed": with(four(), func(k *api.Key) { k.Versions[3].Seed = some(64, 4) }),
	}
}

// answers are calls that answer no error.
func answers() []call {
	found := []call{
		newCall("set 1", 1, 1, 1, some(64, 1), api.OK), newCall("set 3", 6, 8, 3, some(64, 2), api.OK),
		rotateCall("a key of each state", four(), some(64, 9), api.OK), rotateCall("a key of one version", keyOf(api.Gone), some(64, 1), api.OK), rotateCall("a key of one seed", one(), some(64, 3), api.OK),
		setCall("a key of each state", four(), api.OpEnable, 2, 0, api.OK), setCall("a key of each state", four(), api.OpDisable, 1, 0, api.OK), setCall("a key of each state", four(), api.OpCancel, 3, 0, api.OK),
		setCall("a key of each state", four(), api.OpSchedule, 1, 9, api.OK), setCall("a full key", five(), api.OpSchedule, 5, 1<<40, api.OK), setCall("a key of one seed", one(), api.OpDisable, 2, 0, api.OK),
	}
	for name, k := range several() {
		found = append(found, mayCall(name, k), sweepCall(name, k, 9), sweepCall(name, k, 1<<40), sweepCall(name, k, -1), currentCall(name, k))
		for n := range 7 {
			found = append(found, findCall(name, k, n))
		}
	}
	for set := 1; set <= 3; set++ {
		name, k := "set "+strconv.Itoa(set), ofSet(four(), set)
		n, c, _, _ := Seal(k, some(32, set))
		found = append(found, publicCall(name, k, 1, api.OK), publicCall(name, k, 3, api.OK), sealCall(name, k, some(32, set), api.OK), openCall(name, k, n, c, api.OK), openCall(name+", other bytes", k, n, some(len(c), 1), api.OK))
	}
	return found
}

// refused are calls that answer an error.
func refused() []call {
	wrong := ofSet(four(), 0)
	return []call{
		newCall("no ID", 0, 1, 1, some(64, 1), api.ErrArg), newCall("no tenant", 1, 9, 1, some(64, 1), api.ErrArg), newCall("no set", 1, 1, 4, some(64, 1), api.ErrArg), newCall("a short seed", 1, 1, 1, some(63, 1), api.ErrArg),
		rotateCall("a key that may not be", wrong, some(64, 1), api.ErrArg), rotateCall("a key that may not be, a short seed", wrong, some(63, 1), api.ErrArg),
		rotateCall("a short seed", four(), some(63, 1), api.ErrSize), rotateCall("a full key, a long seed", five(), some(65, 1), api.ErrSize), rotateCall("a full key", five(), some(64, 1), api.ErrFull),
		setCall("a key that may not be", wrong, api.OpEnable, 2, 0, api.ErrArg), setCall("no op", four(), api.OpSeal, 1, 0, api.ErrArg), setCall("no version", four(), api.OpEnable, 5, 0, api.ErrNone),
		setCall("an Enabled version", four(), api.OpEnable, 1, 0, api.ErrState), setCall("a Gone version", four(), api.OpSchedule, 4, 9, api.ErrState), setCall("no time", four(), api.OpSchedule, 1, 8, api.ErrArg), setCall("a late time", four(), api.OpSchedule, 2, 1<<40+1, api.ErrArg),
		publicCall("a key that may not be", wrong, 1, api.ErrArg), publicCall("no version", four(), 0, api.ErrNone), publicCall("a Gone version", four(), 4, api.ErrState),
		sealCall("a key that may not be", wrong, some(32, 1), api.ErrArg), sealCall("no version", keyOf(2, 3, 4), some(32, 1), api.ErrState), sealCall("a short message", four(), some(31, 1), api.ErrSize), sealCall("a long message", ofSet(five(), 3), some(33, 1), api.ErrSize),
		openCall("a key that may not be", wrong, 1, some(768, 1), api.ErrArg), openCall("no version", four(), 5, some(768, 1), api.ErrNone), openCall("a Disabled version", four(), 2, some(768, 1), api.ErrState),
		openCall("a Doomed version", four(), 3, some(768, 1), api.ErrState), openCall("a Gone version", four(), 4, some(768, 1), api.ErrState), openCall("short bytes", four(), 1, some(767, 1), api.ErrSize), openCall("bytes of another set", ofSet(four(), 2), 1, some(768, 1), api.ErrSize),
	}
}

func every() []call { return append(answers(), refused()...) }

// Each error wraps a Fault of the Errno that is named and of no other, also those of kem; beside it there is nothing.
func TestErrors(t *testing.T) {
	for _, c := range refused() {
		got, e := c.ask(c.in)
		var fault *api.Fault
		if !errors.As(e, &fault) || fault.Code != c.want || !errors.Is(e, c.want) || api.Code(e) != c.want {
			t.Errorf("P17.1 to P17.3: %s: %v is no Fault of %v", c.name, e, c.want)
			continue
		}
		for other := api.OK; other <= api.ErrWait; other++ {
			if other != c.want && errors.Is(e, other) {
				t.Errorf("P17.1 to P17.3: %s: %v is told to be %v too", c.name, e, other)
			}
		}
		if !got.same(told{}) {
			t.Errorf("R2: %s tells something beside an error", c.name)
		}
		if inner := errors.Unwrap(e); inner == nil || !errors.Is(inner, fault) || e.Error() == fault.Error() {
			t.Errorf("P17.1 to P17.3: %s: %v does not wrap its Fault", c.name, e)
		}
	}
}

// A Fault that is written over stays what other answers have.
func TestErrorsAreNew(t *testing.T) {
	for _, c := range refused() {
		var fault *api.Fault
		_, first := c.ask(c.in)
		_, kept := c.ask(c.in)
		if errors.As(first, &fault) {
			fault.Code = api.ErrWait
		}
		if _, again := c.ask(c.in); !is(kept, c.want) || !is(again, c.want) {
			t.Errorf("R4: errors of %s share memory", c.name)
		}
	}
}

// Beside a false, and of a key that may not be, there is nothing.
func TestNothingBesideFalse(t *testing.T) {
	for name, k := range several() {
		if v, ok := Find(k, 9); ok || !sameVersion(v, api.Version{}) {
			t.Errorf("R2: Find of %s tells a version that isn't there", name)
		}
		if v, ok := Current(k); !ok && !sameVersion(v, api.Version{}) {
			t.Errorf("R2: Current of %s tells a version beside false", name)
		}
		if swept, n := Sweep(k, 1<<40); !May(k) && (n != 0 || !same(swept, api.Key{})) {
			t.Errorf("R2: Sweep of %s tells a key", name)
		}
	}
}

// check asks c of in, and tells what was answered; it is to be want, and in is to stay.
func (c call) check(t *testing.T, rule string, in given, want told) told {
	t.Helper()
	had := in.kept()
	got, e := c.ask(in)
	if !is(e, c.want) || !got.same(want) {
		t.Errorf("%s: %s is another answer: %v", rule, c.name, e)
	}
	if !in.stays(had) {
		t.Errorf("R4: %s changes what it was given, or its spare room", c.name)
	}
	return got
}

// first is what c is answered of what nobody else has.
func (c call) first() told {
	got, _ := c.ask(given{deep(c.in.key), bytes.Clone(c.in.b)})
	return got.copied()
}

// spares are versions that stand in spare room: none, and those that might stand there.
func spares(k api.Key) [][]api.Version {
	return [][]api.Version{make([]api.Version, 3), {standing(len(k.Versions)+1, api.Enabled), standing(len(k.Versions)+2, api.Doomed)}, {{N: -1, State: 9, Due: 9, Seed: some(3, 3)}}}
}

// What stands in spare room counts for nothing, and stays; neither of two answers shares memory with the other, nor with what was handed in.
func TestWhatIsHandedInAndAnswered(t *testing.T) {
	for _, c := range every() {
		want := c.first()
		for _, spare := range spares(c.in.key) {
			in := c.in.withRoom(spare)
			had := in.kept()
			got := c.check(t, "R5", in, want)
			again := c.check(t, "R5", in, want)
			again.overwrite()
			if !in.stays(had) || !got.same(want) {
				t.Errorf("R4: what %s tells shares memory with what it was given, or told", c.name)
			}
			c.check(t, "R5, what was told written over", in, want)
			in.overwrite()
			if !got.same(want) {
				t.Errorf("R4: what %s tells is changed with what it was given", c.name)
			}
		}
		c.check(t, "R5", c.in, want)
	}
}

// Each part of an answer has memory of its own: seeds that were one are not one any more, and a seed's or a secret's spare room is nobody's.
func TestPartsOfAnAnswerShareNothing(t *testing.T) {
	for _, c := range answers() {
		want := c.first()
		got, _ := c.ask(c.in)
		for i, v := range got.key.Versions {
			overwrite(v.Seed)
			for j, other := range got.key.Versions {
				if j > i && !bytes.Equal(other.Seed, want.key.Versions[j].Seed) {
					t.Errorf("R4: seeds %d and %d of what %s tells share memory", i+1, j+1, c.name)
				}
			}
		}
		overwrite(got.c)
		if !bytes.Equal(got.b, want.b) {
			t.Errorf("R4: what %s tells shares memory", c.name)
		}
	}
}

// Two keys that grow from one stand each alone, also where there is room behind.
func TestTwoOfOneKey(t *testing.T) {
	in := given{key: four()}.withRoom(make([]api.Version, 4))
	a, _ := Rotate(in.key, some(64, 11))
	b, _ := Rotate(in.key, some(64, 12))
	if !bytes.Equal(a.Versions[4].Seed, some(64, 11)) || !bytes.Equal(b.Versions[4].Seed, some(64, 12)) || len(in.key.Versions) != 4 || in.key.Versions[:5][4].N != 0 {
		t.Error("R4: keys of Rotate share memory")
	}
	c, _ := Set(a, api.OpDisable, 5, 0, 0)
	d, _ := Set(a, api.OpSchedule, 5, 9, 0)
	if states(a) != states(b) || c.Versions[4].State != api.Disabled || d.Versions[4].State != api.Doomed || a.Versions[4].State != api.Enabled {
		t.Error("R4: keys of Set share memory")
	}
	swept, _ := Sweep(d, 9)
	if len(swept.Versions[4].Seed) != 0 || !bytes.Equal(d.Versions[4].Seed, some(64, 11)) || !bytes.Equal(a.Versions[4].Seed, some(64, 11)) {
		t.Error("R4: keys of Sweep share memory")
	}
}

// What is Gone is told without a seed, though the key that was handed in has one still.
func TestGoneSeedIsNowhere(t *testing.T) {
	k := doomed(9, 0, 9)
	seed := k.Versions[2].Seed
	swept, n := Sweep(k, 9)
	for _, v := range swept.Versions[:cap(swept.Versions)] {
		if room := v.Seed[:cap(v.Seed)]; bytes.Contains(room, seed) || bytes.Contains(room, k.Versions[0].Seed) {
			t.Error("P17.2: Sweep tells the seed of a version that is Gone")
		}
	}
	if n != 2 || !bytes.Equal(seed, some(64, 3)) {
		t.Errorf("P17.2: Sweep makes %d Gone, or writes over a seed", n)
	}
}

// What was refused, and what was answered, leaves each other call as it was.
func TestAskedAgainBehindOthers(t *testing.T) {
	all := every()
	var want []told
	for _, c := range all {
		want = append(want, c.first())
	}
	for i, c := range slices.Backward(all) {
		c.check(t, "R5, behind others", c.in, want[i])
	}
}

func TestManyAtOnce(t *testing.T) {
	for _, c := range every() {
		want := c.first()
		var all sync.WaitGroup
		for range 8 {
			all.Go(func() { c.check(t, "R5, beside other calls", c.in, want) })
		}
		all.Wait()
	}
}

func BenchmarkSet(b *testing.B) {
	k := five()
	for b.Loop() {
		Set(k, api.OpDisable, 4, 0, 0)
	}
}

func BenchmarkSeal(b *testing.B) {
	k, m := five(), some(32, 1)
	for b.Loop() {
		Seal(k, m)
	}
}

func BenchmarkOpen(b *testing.B) {
	k := five()
	_, _, size := kem.Sizes(k.Set)
	c := some(size, 1)
	for b.Loop() {
		Open(k, 4, c)
	}
}
