package keys

import (
	"bytes"
	"crypto/mlkem"
	"errors"
	"math"
	"math/rand/v2"
	"slices"
	"strconv"
	"testing"

	"chatelaine/api"
	"chatelaine/kem"
)

// is tells whether an error is a Fault with that Errno, or none of OK.
func is(e error, want api.Errno) bool {
	if want == api.OK {
		return e == nil
	}
	var f *api.Fault
	return errors.As(e, &f) && f.Code == want && errors.Is(e, want) && api.Code(e) == want
}

// some are so many bytes, the same of the same number.
func some(many int, k int) []byte {
	from, b := rand.New(rand.NewPCG(17, uint64(k))), make([]byte, many)
	for i := range b {
		b[i] = byte(from.Uint32())
	}
	return b
}

// standing is version n in a state, with what belongs to that; a Doomed one goes at 10 n.
func standing(n int, state int) api.Version {
	v := api.Version{N: n, State: state}
	if state == api.Doomed {
		v.Due = 10 * n
	}
	if state != api.Gone {
		v.Seed = some(64, n)
	}
	return v
}

// keyOf is a key of versions that stand so.
func keyOf(states ...int) api.Key {
	k := api.Key{ID: 2, Tenant: 3, Set: 1}
	for i, state := range states {
		k.Versions = append(k.Versions, standing(i+1, state))
	}
	return k
}

// four is a key with a version in each state, in their order.
func four() api.Key { return keyOf(api.Enabled, api.Disabled, api.Doomed, api.Gone) }

// five is a key of as many versions as may be.
func five() api.Key { return keyOf(api.Enabled, api.Gone, api.Doomed, api.Enabled, api.Disabled) }

// everyKey hands out all keys of 1 to most versions, each in each state.
func everyKey(most int, each func(k api.Key)) {
	var grow func(states []int)
	grow = func(states []int) {
		if len(states) > 0 {
			each(keyOf(states...))
		}
		for state := 1; state <= 4 && len(states) < most; state++ {
			grow(append(slices.Clone(states), state))
		}
	}
	grow(nil)
}

// deep is k with memory of its own.
func deep(k api.Key) api.Key {
	k.Versions = slices.Clone(k.Versions)
	for i := range k.Versions {
		k.Versions[i].Seed = bytes.Clone(k.Versions[i].Seed)
	}
	return k
}

func with(k api.Key, change func(k *api.Key)) api.Key {
	k = deep(k)
	change(&k)
	return k
}

func sameVersion(a, b api.Version) bool {
	return a.N == b.N && a.State == b.State && a.Due == b.Due && bytes.Equal(a.Seed, b.Seed)
}

func same(a, b api.Key) bool {
	return a.ID == b.ID && a.Tenant == b.Tenant && a.Set == b.Set && slices.EqualFunc(a.Versions, b.Versions, sameVersion)
}

// states tells how a key's versions stand, without their seeds.
func states(k api.Key) string {
	s := ""
	for _, v := range k.Versions {
		s += " " + strconv.Itoa(v.N) + ":" + strconv.Itoa(v.State)
	}
	return s
}

// slowMay goes by the chapter's words.
func slowMay(k api.Key) bool {
	if k.ID < 1 || k.ID > 6 || k.Tenant < 1 || k.Tenant > 8 || k.Set < 1 || k.Set > 3 || len(k.Versions) < 1 || len(k.Versions) > 5 {
		return false
	}
	for i, v := range k.Versions {
		if v.N != i+1 || v.State < 1 || v.State > 4 {
			return false
		}
		if v.State == 4 && len(v.Seed) != 0 || v.State != 4 && len(v.Seed) != 64 {
			return false
		}
		if v.State == 3 && (v.Due < 1 || v.Due > 1<<40) || v.State != 3 && v.Due != 0 {
			return false
		}
	}
	return true
}

// slowSet goes by the chapter's words: of an op and a state, which state follows.
func slowSet(k api.Key, op, version, until, clock int) (api.Key, api.Errno) {
	if !slowMay(k) || op < api.OpEnable || op > api.OpCancel {
		return api.Key{}, api.ErrArg
	}
	if version < 1 || version > len(k.Versions) {
		return api.Key{}, api.ErrNone
	}
	to, ok := map[[2]int]int{{5, 2}: 1, {6, 1}: 2, {7, 1}: 3, {7, 2}: 3, {8, 3}: 2}[[2]int{op, k.Versions[version-1].State}]
	if !ok {
		return api.Key{}, api.ErrState
	}
	due := 0
	if op == 7 {
		if due = until; until <= clock || until <= 0 || until > 1<<40 {
			return api.Key{}, api.ErrArg
		}
	}
	return with(k, func(k *api.Key) { k.Versions[version-1].State, k.Versions[version-1].Due = to, due }), api.OK
}

// slowSweep goes by the chapter's words.
func slowSweep(k api.Key, clock int) (api.Key, int) {
	if !slowMay(k) {
		return api.Key{}, 0
	}
	k, many := deep(k), 0
	for i, v := range k.Versions {
		if v.State == 3 && v.Due <= clock {
			k.Versions[i], many = api.Version{N: i + 1, State: 4}, many+1
		}
	}
	return k, many
}

// slowCurrent goes by the chapter's words.
func slowCurrent(k api.Key) (found api.Version, ok bool) {
	for _, v := range k.Versions {
		if slowMay(k) && v.State == 1 && v.N > found.N {
			found, ok = v, true
		}
	}
	return found, ok
}

// checkKey holds a key and an error against what is to be told.
func checkKey(t *testing.T, what string, got api.Key, e error, want api.Key, code api.Errno) {
	t.Helper()
	if !is(e, code) {
		t.Errorf("%s: %v, not %v", what, e, code)
		return
	}
	if code != api.OK && !same(got, api.Key{}) {
		t.Errorf("R2: %s tells a key beside an error", what)
	}
	if code == api.OK && !same(got, want) {
		t.Errorf("%s is another key:%s", what, states(got))
	}
}

// checkSet holds Set against the slow one.
func checkSet(t *testing.T, k api.Key, op, version, until, clock int) {
	t.Helper()
	want, code := slowSet(k, op, version, until, clock)
	got, e := Set(k, op, version, until, clock)
	if is(e, code) && same(got, want) {
		return
	}
	at := []string{"P17.2: Set of" + states(k)}
	for _, x := range []int{op, version, until, clock} {
		at = append(at, strconv.Itoa(x))
	}
	checkKey(t, joined(at), got, e, want, code)
}

func joined(l []string) string {
	s := ""
	for _, x := range l {
		s += x + ", "
	}
	return s
}

// checkSweep holds Sweep against the slow one.
func checkSweep(t *testing.T, k api.Key, clock int) {
	t.Helper()
	want, many := slowSweep(k, clock)
	if got, n := Sweep(k, clock); n != many || !same(got, want) {
		t.Errorf("P17.2: Sweep of%s at %d: %d are Gone, not %d:%s", states(k), clock, n, many, states(got))
	}
}

// checkVersions holds Find and Current against what is to be told.
func checkVersions(t *testing.T, k api.Key) {
	t.Helper()
	want, there := slowCurrent(k)
	if got, ok := Current(k); ok != there || !sameVersion(got, want) {
		t.Errorf("P17.1: Current of%s is %d, %v, not %d", states(k), got.N, ok, want.N)
	}
	for _, n := range numbers() {
		var want api.Version
		there := slowMay(k) && n >= 1 && n <= len(k.Versions)
		if there {
			want = k.Versions[n-1]
		}
		if got, ok := Find(k, n); ok != there || !sameVersion(got, want) {
			t.Errorf("P17.1: Find(%d) of%s is %d, %v", n, states(k), got.N, ok)
		}
	}
}

// checkMay holds May against what is to be told, and every other call of a key that may not be.
func checkMay(t *testing.T, what string, k api.Key, may bool) {
	t.Helper()
	if May(k) != may || slowMay(k) != may {
		t.Errorf("P17.1: May of %s is not %v", what, may)
	}
	checkVersions(t, k)
	checkSweep(t, k, 1<<40)
	checkSweep(t, k, -1)
	for op := -1; op <= 15; op++ {
		checkSet(t, k, op, 1, 9, 8)
		checkSet(t, k, op, 0, 0, 0)
	}
	if may {
		return
	}
	for _, seed := range [][]byte{some(64, 9), some(63, 9), nil} {
		got, e := Rotate(k, seed)
		checkKey(t, "P17.1: Rotate of "+what, got, e, api.Key{}, api.ErrArg)
	}
	for _, n := range []int{-1, 0, 1, 2, 9, math.MinInt, math.MaxInt} {
		if b, e := Public(k, n); len(b) != 0 || !is(e, api.ErrArg) {
			t.Errorf("P17.3: Public(%d) of %s: %v", n, what, e)
		}
		for _, c := range [][]byte{nil, some(768, 1), some(1088, 1), some(1568, 1)} {
			if b, e := Open(k, n, c); len(b) != 0 || !is(e, api.ErrArg) {
				t.Errorf("P17.3: Open of version %d of %s: %v", n, what, e)
			}
		}
	}
	for _, m := range [][]byte{nil, some(31, 1), some(32, 1)} {
		if n, c, s, e := Seal(k, m); n != 0 || len(c) != 0 || len(s) != 0 || !is(e, api.ErrArg) {
			t.Errorf("P17.3: Seal of %s: %v", what, e)
		}
	}
}

// numbers stand at both sides of each bound; some are, if they are cut to 32, 16 or 8 bits, or their sign is.
func numbers() []int {
	return []int{-1 << 40, -64, -9, -6, -5, -4, -3, -2, -1, 0, 1, 2, 3, 4, 5, 6, 7, 8, 9, 10, 16, 63, 64, 255, 256, 257, 1<<16 + 2, 1 << 32, 1<<32 + 1, -1<<32 + 1,
		1<<40 - 1, 1 << 40, 1<<40 + 1, 1 << 41, math.MinInt, math.MinInt + 1, math.MinInt + 2, math.MinInt + 3, math.MaxInt - 1, math.MaxInt}
}

// sizes are how many bytes a seed has, at both sides of what it may have.
func sizes() []int {
	return []int{0, 1, 2, 31, 32, 33, 62, 63, 64, 65, 66, 96, 127, 128, 255, 256, 256 + 64, 1<<16 + 64}
}

func TestExample(t *testing.T) {
	got, e := Set(keyOf(api.Enabled), api.OpCancel, 1, 0, 0)
	checkKey(t, "P17.2: the example", got, e, api.Key{}, api.ErrState)
}

func TestLimits(t *testing.T) {
	if api.MaxKeys != 6 || api.MaxTenants != 8 || api.MaxVersions != 5 || api.MaxClock != 1<<40 || api.SeedSize != 64 || api.Sets != 3 {
		t.Error("the limits are other ones")
	}
	if api.OpEnable != 5 || api.OpDisable != 6 || api.OpSchedule != 7 || api.OpCancel != 8 || api.Enabled != 1 || api.Disabled != 2 || api.Doomed != 3 || api.Gone != 4 {
		t.Error("the ops and states are other ones")
	}
}

func TestMayOfEachNumber(t *testing.T) {
	for _, k := range []api.Key{keyOf(api.Enabled), keyOf(api.Gone), four(), five()} {
		for _, x := range numbers() {
			checkMay(t, "ID "+strconv.Itoa(x), with(k, func(k *api.Key) { k.ID = x }), x >= 1 && x <= 6)
			checkMay(t, "tenant "+strconv.Itoa(x), with(k, func(k *api.Key) { k.Tenant = x }), x >= 1 && x <= 8)
			checkMay(t, "set "+strconv.Itoa(x), with(k, func(k *api.Key) { k.Set = x }), x >= 1 && x <= 3)
		}
	}
	checkMay(t, "no key", api.Key{}, false)
}

func TestMayOfHowManyVersions(t *testing.T) {
	for state := 1; state <= 4; state++ {
		for n := range 12 {
			checkMay(t, strconv.Itoa(n)+" versions", keyOf(slices.Repeat([]int{state}, n)...), n >= 1 && n <= 5)
		}
		for _, n := range []int{256 + 1, 256 + 5, 1<<16 + 1} {
			checkMay(t, strconv.Itoa(n)+" versions", keyOf(slices.Repeat([]int{state}, n)...), false)
		}
	}
	checkMay(t, "versions in spare room", with(four(), func(k *api.Key) { k.Versions = k.Versions[:0] }), false)
	checkMay(t, "no versions", with(four(), func(k *api.Key) { k.Versions = []api.Version{} }), false)
}

func TestMayOfEachN(t *testing.T) {
	for _, k := range []api.Key{keyOf(api.Enabled), keyOf(api.Gone), keyOf(api.Doomed, api.Disabled), four(), five()} {
		for i := range k.Versions {
			for _, n := range numbers() {
				checkMay(t, "N "+strconv.Itoa(n)+" at "+strconv.Itoa(i), with(k, func(k *api.Key) { k.Versions[i].N = n }), n == i+1)
			}
		}
		for i := range len(k.Versions) - 1 {
			checkMay(t, "two turned round", with(k, func(k *api.Key) { k.Versions[i], k.Versions[i+1] = k.Versions[i+1], k.Versions[i] }), false)
			checkMay(t, "none at a place", with(k, func(k *api.Key) { k.Versions = slices.Delete(k.Versions, i, i+1) }), false)
			checkMay(t, "one twice", with(k, func(k *api.Key) { k.Versions[i+1] = k.Versions[i] }), false)
		}
	}
}

// Each state, with each time and each size of a seed, at each place of a key.
func TestMayOfEachVersion(t *testing.T) {
	right := 0
	for _, k := range []api.Key{keyOf(api.Enabled), four(), five()} {
		for i := range k.Versions {
			for _, state := range numbers() {
				for _, due := range numbers() {
					for _, size := range sizes()[:12] {
						spoilt := with(k, func(k *api.Key) {
							k.Versions[i] = api.Version{N: i + 1, State: state, Due: due, Seed: make([]byte, size)}
						})
						may := (state == 1 || state == 2) && due == 0 && size == 64 || state == 3 && due >= 1 && due <= 1<<40 && size == 64 || state == 4 && due == 0 && size == 0
						if May(spoilt) != may || slowMay(spoilt) != may {
							t.Errorf("P17.1: May of a key whose version %d is of state %d, due %d, with a seed of %d bytes, is not %v", i+1, state, due, size, may)
						}
						if may {
							right++
						}
					}
				}
			}
		}
	}
	due := 0
	for _, x := range numbers() {
		if x >= 1 && x <= 1<<40 {
			due++
		}
	}
	if want := 10 * (3 + due); right != want {
		t.Errorf("%d keys that may be are tried, not %d", right, want)
	}
}

// Of a version that may not be, at each place, every call tells so.
func TestCallsOfKeysThatMayNotBe(t *testing.T) {
	for _, k := range []api.Key{keyOf(api.Enabled), keyOf(api.Doomed), keyOf(api.Gone), four(), five()} {
		for i, v := range k.Versions {
			for _, state := range []int{-1, 0, 5, 6, 1<<32 + 1, math.MinInt + 1} {
				checkMay(t, "a state that is none", with(k, func(k *api.Key) { k.Versions[i].State = state }), false)
			}
			for _, size := range sizes() {
				may := size == 64 && v.State != api.Gone || size == 0 && v.State == api.Gone
				checkMay(t, "a seed of "+strconv.Itoa(size), with(k, func(k *api.Key) { k.Versions[i].Seed = make([]byte, size) }), may)
			}
			for _, due := range numbers() {
				may := due == 0
				if v.State == api.Doomed {
					may = due >= 1 && due <= 1<<40
				}
				checkMay(t, "due "+strconv.Itoa(due), with(k, func(k *api.Key) { k.Versions[i].Due = due }), may)
			}
		}
	}
}

// Spare room behind a seed is none of it.
func TestSeedsWithSpareRoom(t *testing.T) {
	room := make([]byte, 128)
	for _, size := range []int{0, 63, 64, 65} {
		checkMay(t, "an Enabled version, a seed with room behind", with(four(), func(k *api.Key) { k.Versions[0].Seed = room[:size] }), size == 64)
		checkMay(t, "a Gone version, a seed with room behind", with(four(), func(k *api.Key) { k.Versions[3].Seed = room[:size] }), size == 0)
		_, e := New(1, 1, 1, room[:size])
		_, other := Rotate(four(), room[:size])
		if (e == nil) != (size == 64) || (other == nil) != (size == 64) {
			t.Errorf("P17.1: New and Rotate with a seed of %d bytes, and room behind: %v, %v", size, e, other)
		}
	}
}

func TestNew(t *testing.T) {
	right := 0
	for _, id := range numbers() {
		for _, tenant := range numbers() {
			for _, set := range numbers() {
				want, code := api.Key{ID: id, Tenant: tenant, Set: set, Versions: []api.Version{{N: 1, State: 1, Seed: some(64, 5)}}}, api.ErrArg
				if id >= 1 && id <= 6 && tenant >= 1 && tenant <= 8 && set >= 1 && set <= 3 {
					code = api.OK
					right++
				}
				got, e := New(id, tenant, set, want.Versions[0].Seed)
				checkKey(t, "P17.1: New of "+joined([]string{strconv.Itoa(id), strconv.Itoa(tenant), strconv.Itoa(set)}), got, e, want, code)
			}
		}
	}
	if right != 6*8*3 {
		t.Errorf("%d keys that may be are tried", right)
	}
}

func TestNewOfEachSeed(t *testing.T) {
	for _, size := range sizes() {
		for _, id := range []int{0, 1, 6, 7} {
			for set := range 5 {
				want, code := api.Key{ID: id, Tenant: 8, Set: set, Versions: []api.Version{{N: 1, State: 1, Seed: some(size, set)}}}, api.OK
				if size != 64 || id < 1 || id > 6 || set < 1 || set > 3 {
					code = api.ErrArg
				}
				got, e := New(id, 8, set, some(size, set))
				checkKey(t, "P17.1: New with a seed of "+strconv.Itoa(size), got, e, want, code)
			}
		}
	}
	for _, seed := range [][]byte{make([]byte, 64), bytes.Repeat([]byte{255}, 64)} {
		if got, e := New(1, 1, 1, seed); e != nil || !bytes.Equal(got.Versions[0].Seed, seed) {
			t.Errorf("P17.1: New with a seed of one byte only: %v", e)
		}
	}
}

func TestRotate(t *testing.T) {
	everyKey(5, func(k api.Key) {
		for _, size := range []int{64, 0, 63, 65, 128} {
			code := api.OK
			if size != 64 {
				code = api.ErrSize
			} else if len(k.Versions) == 5 {
				code = api.ErrFull
			}
			n := len(k.Versions) + 1
			want := with(k, func(k *api.Key) {
				k.Versions = append(k.Versions, api.Version{N: n, State: 1, Seed: some(size, 100+n)})
			})
			got, e := Rotate(k, some(size, 100+n))
			checkKey(t, "P17.1: Rotate of"+states(k)+" with a seed of "+strconv.Itoa(size), got, e, want, code)
			if e == nil && !May(got) {
				t.Errorf("P17.1: Rotate of%s tells a key that may not be", states(k))
			}
		}
	})
	for _, size := range sizes() {
		_, e := Rotate(four(), make([]byte, size))
		_, full := Rotate(five(), make([]byte, size))
		if (e == nil) != (size == 64) || size != 64 && (!is(e, api.ErrSize) || !is(full, api.ErrSize)) || size == 64 && !is(full, api.ErrFull) {
			t.Errorf("P17.1: Rotate with a seed of %d bytes: %v; of a full key: %v", size, e, full)
		}
	}
}

func TestRotateUntilFull(t *testing.T) {
	for set := 1; set <= 3; set++ {
		k, _ := New(6, 8, set, some(64, 1))
		for n := 2; n <= 5; n++ {
			more, e := Rotate(k, some(64, n))
			if e != nil || len(more.Versions) != n || more.Set != set || more.ID != 6 || more.Tenant != 8 {
				t.Fatalf("P17.1: Rotate to version %d: %v", n, e)
			}
			if v, ok := Current(more); !ok || !sameVersion(v, api.Version{N: n, State: api.Enabled, Seed: some(64, n)}) {
				t.Errorf("P17.1: Current behind Rotate is %d, not %d", v.N, n)
			}
			k = more
		}
		got, e := Rotate(k, some(64, 6))
		checkKey(t, "P17.1: Rotate of a full key", got, e, api.Key{}, api.ErrFull)
	}
}

func TestFindAndCurrent(t *testing.T) {
	everyKey(5, func(k api.Key) { checkVersions(t, k) })
	for _, x := range []struct {
		k    api.Key
		want int
	}{
		{keyOf(1), 1}, {keyOf(2), 0}, {keyOf(3), 0}, {keyOf(4), 0}, {keyOf(1, 1), 2}, {keyOf(1, 2), 1}, {keyOf(1, 3), 1}, {keyOf(1, 4), 1}, {keyOf(2, 1), 2},
		{keyOf(2, 3, 4), 0}, {keyOf(4, 4, 4, 4, 4), 0}, {keyOf(1, 4, 4, 4, 4), 1}, {keyOf(1, 1, 2, 3, 4), 2}, {keyOf(2, 3, 4, 1, 2), 4}, {five(), 4}, {keyOf(1, 1, 1, 1, 1), 5},
	} {
		if v, ok := Current(x.k); v.N != x.want || ok != (x.want > 0) {
			t.Errorf("P17.1: Current of%s is %d, %v, not %d", states(x.k), v.N, ok, x.want)
		}
	}
}

// Of every key each op, of versions that are there and that are not.
func TestSetOfEveryKey(t *testing.T) {
	everyKey(5, func(k api.Key) {
		for op := 4; op <= 9; op++ {
			for version := -1; version <= 7; version++ {
				checkSet(t, k, op, version, 9, 8)
				checkSet(t, k, op, version, 8, 8)
			}
		}
	})
}

func TestSetOfEachOpAndVersion(t *testing.T) {
	for _, k := range []api.Key{four(), five(), keyOf(api.Enabled), keyOf(api.Disabled), keyOf(api.Doomed), keyOf(api.Gone)} {
		for _, op := range append(numbers(), 11, 12, 13, 14, 15, 256+5, 1<<32+7, 1<<32+8) {
			for _, version := range numbers() {
				for _, until := range []int{-1, 0, 20, 1 << 40, 1<<40 + 1} {
					checkSet(t, k, op, version, until, 19)
				}
			}
		}
	}
}

// Every until beside every clock: above it, or not; what Set tells beside other ops hangs on neither.
func TestSetOfEachTime(t *testing.T) {
	for _, clock := range numbers() {
		untils := append(numbers(), clock)
		if clock > math.MinInt {
			untils = append(untils, clock-1)
		}
		if clock < math.MaxInt {
			untils = append(untils, clock+1)
		}
		for _, until := range untils {
			for op := 4; op <= 9; op++ {
				for version := 1; version <= 4; version++ {
					checkSet(t, four(), op, version, until, clock)
				}
			}
		}
	}
}

func TestSetByHand(t *testing.T) {
	for _, x := range []struct {
		op, version, until, clock int
		state, due                int
		want                      api.Errno
	}{
		{api.OpEnable, 2, 0, 0, api.Enabled, 0, api.OK},
		{api.OpEnable, 1, 0, 0, 0, 0, api.ErrState},
		{api.OpEnable, 3, 0, 0, 0, 0, api.ErrState},
		{api.OpEnable, 4, 0, 0, 0, 0, api.ErrState},
		{api.OpEnable, 2, -1, 1 << 41, api.Enabled, 0, api.OK},
		{api.OpDisable, 1, 0, 0, api.Disabled, 0, api.OK},
		{api.OpDisable, 2, 0, 0, 0, 0, api.ErrState},
		{api.OpDisable, 3, 0, 0, 0, 0, api.ErrState},
		{api.OpDisable, 4, 0, 0, 0, 0, api.ErrState},
		{api.OpDisable, 1, math.MaxInt, 0, api.Disabled, 0, api.OK},
		{api.OpSchedule, 1, 1, 0, api.Doomed, 1, api.OK},
		{api.OpSchedule, 2, 1, 0, api.Doomed, 1, api.OK},
		{api.OpSchedule, 1, 1 << 40, 0, api.Doomed, 1 << 40, api.OK},
		{api.OpSchedule, 1, 1 << 40, 1<<40 - 1, api.Doomed, 1 << 40, api.OK},
		{api.OpSchedule, 1, 1 << 40, 1 << 40, 0, 0, api.ErrArg},
		{api.OpSchedule, 1, 1<<40 + 1, 1 << 40, 0, 0, api.ErrArg},
		{api.OpSchedule, 1, 0, -1, 0, 0, api.ErrArg},
		{api.OpSchedule, 1, -1, -2, 0, 0, api.ErrArg},
		{api.OpSchedule, 1, 1, math.MinInt, api.Doomed, 1, api.OK},
		{api.OpSchedule, 2, 7, 7, 0, 0, api.ErrArg},
		{api.OpSchedule, 2, 8, 7, api.Doomed, 8, api.OK},
		{api.OpSchedule, 2, 6, 7, 0, 0, api.ErrArg},
		{api.OpSchedule, 1, math.MaxInt, math.MinInt, 0, 0, api.ErrArg},
		{api.OpSchedule, 3, 8, 7, 0, 0, api.ErrState},
		{api.OpSchedule, 4, 8, 7, 0, 0, api.ErrState},
		{api.OpCancel, 3, 0, 0, api.Disabled, 0, api.OK},
		{api.OpCancel, 3, 30, 31, api.Disabled, 0, api.OK},
		{api.OpCancel, 1, 0, 0, 0, 0, api.ErrState},
		{api.OpCancel, 2, 0, 0, 0, 0, api.ErrState},
		{api.OpCancel, 4, 0, 0, 0, 0, api.ErrState},
	} {
		k := four()
		want := with(k, func(k *api.Key) { k.Versions[x.version-1].State, k.Versions[x.version-1].Due = x.state, x.due })
		got, e := Set(k, x.op, x.version, x.until, x.clock)
		checkKey(t, "P17.2: Set "+joined([]string{strconv.Itoa(x.op), strconv.Itoa(x.version), strconv.Itoa(x.until), strconv.Itoa(x.clock)}), got, e, want, x.want)
	}
}

// The key comes first, then the op, the version, how it stands, and until.
func TestWhichErrorOfSetIsFirst(t *testing.T) {
	wrong := with(four(), func(k *api.Key) { k.Set = 4 })
	for _, x := range []struct {
		what               string
		k                  api.Key
		op, version, until int
		want               api.Errno
	}{
		{"a wrong key, no version", wrong, api.OpEnable, 9, 0, api.ErrArg},
		{"a wrong key, as it stands", wrong, api.OpEnable, 1, 0, api.ErrArg},
		{"a wrong key", wrong, api.OpEnable, 2, 0, api.ErrArg},
		{"no op, no version", four(), api.OpSeal, 5, 0, api.ErrArg},
		{"no op, version 0", four(), 0, 0, 0, api.ErrArg},
		{"no op, a Gone version", four(), api.OpRotate, 4, 0, api.ErrArg},
		{"no version, no time", four(), api.OpSchedule, 5, 0, api.ErrNone},
		{"no version, a late time", four(), api.OpSchedule, -1, 1<<40 + 1, api.ErrNone},
		{"no version", four(), api.OpEnable, 5, 0, api.ErrNone},
		{"a Doomed version, no time", four(), api.OpSchedule, 3, 0, api.ErrState},
		{"a Gone version, no time", four(), api.OpSchedule, 4, 0, api.ErrState},
		{"a Gone version, a late time", four(), api.OpSchedule, 4, 1<<40 + 1, api.ErrState},
		{"a Doomed version, the clock's time", four(), api.OpSchedule, 3, 5, api.ErrState},
		{"no time", four(), api.OpSchedule, 1, 5, api.ErrArg},
	} {
		got, e := Set(x.k, x.op, x.version, x.until, 5)
		checkKey(t, "P17.2: Set: "+x.what, got, e, api.Key{}, x.want)
	}
}

// doomed is a key whose versions go at these times; one without a time is Enabled.
func doomed(dues ...int) api.Key {
	k := keyOf(slices.Repeat([]int{api.Enabled}, len(dues))...)
	for i, due := range dues {
		if due != 0 {
			k.Versions[i].State, k.Versions[i].Due = api.Doomed, due
		}
	}
	return k
}

func TestSweep(t *testing.T) {
	for _, x := range []struct {
		dues  []int
		clock int
		gone  []int
	}{
		{[]int{50}, 49, nil}, {[]int{50}, 50, []int{1}}, {[]int{50}, 51, []int{1}}, {[]int{1}, 0, nil}, {[]int{1}, 1, []int{1}}, {[]int{1}, -1, nil}, {[]int{1}, math.MinInt, nil},
		{[]int{1 << 40}, 1<<40 - 1, nil}, {[]int{1 << 40}, 1 << 40, []int{1}}, {[]int{1 << 40}, math.MaxInt, []int{1}}, {[]int{0}, math.MaxInt, nil},
		{[]int{50, 50, 50, 50, 50}, 50, []int{1, 2, 3, 4, 5}}, {[]int{50, 50, 50, 50, 50}, 49, nil}, {[]int{10, 20, 30, 40, 50}, 30, []int{1, 2, 3}}, {[]int{50, 40, 30, 20, 10}, 29, []int{4, 5}},
		{[]int{0, 7, 0, 7, 8}, 7, []int{2, 4}}, {[]int{0, 7, 0, 7, 8}, 8, []int{2, 4, 5}}, {[]int{0, 0, 0, 0, 0}, 1 << 40, nil},
	} {
		k := doomed(x.dues...)
		want := with(k, func(k *api.Key) {
			for _, n := range x.gone {
				k.Versions[n-1] = api.Version{N: n, State: api.Gone}
			}
		})
		got, n := Sweep(k, x.clock)
		if n != len(x.gone) || !same(got, want) || !May(got) {
			t.Errorf("P17.2: Sweep of %v at %d: %d are Gone:%s", x.dues, x.clock, n, states(got))
		}
		if again, more := Sweep(got, x.clock); more != 0 || !same(again, got) {
			t.Errorf("P17.2: Sweep of %v at %d, once more: %d are Gone:%s", x.dues, x.clock, more, states(again))
		}
	}
}

func TestSweepOfEveryKey(t *testing.T) {
	everyKey(5, func(k api.Key) {
		for _, clock := range []int{-1, 0, 9, 10, 11, 19, 20, 21, 29, 30, 31, 40, 49, 50, 51, 1 << 40} {
			checkSweep(t, k, clock)
		}
	})
	for _, clock := range numbers() {
		for _, due := range numbers() {
			checkSweep(t, doomed(0, due, 1), clock)
		}
	}
}

// ofKem is kem's sealing and opening key.
func ofKem(t *testing.T, set int, seed []byte) ([]byte, []byte) {
	t.Helper()
	seal, open, e := kem.Keys(set, seed)
	if e != nil {
		t.Fatal(e)
	}
	return seal, open
}

// ofSet is a key of another set.
func ofSet(k api.Key, set int) api.Key { return with(k, func(k *api.Key) { k.Set = set }) }

func TestPublic(t *testing.T) {
	for set := 1; set <= 3; set++ {
		for _, k := range []api.Key{ofSet(four(), set), ofSet(five(), set), ofSet(keyOf(api.Gone), set), ofSet(keyOf(api.Disabled), set)} {
			for _, n := range numbers() {
				var want []byte
				code := api.ErrNone
				if n >= 1 && n <= len(k.Versions) {
					code = api.ErrState
					if v := k.Versions[n-1]; v.State != api.Gone {
						code = api.OK
						want, _ = ofKem(t, set, v.Seed)
					}
				}
				if got, e := Public(k, n); !is(e, code) || !bytes.Equal(got, want) {
					t.Errorf("P17.3: Public(%d) of%s, set %d: %d bytes, %v, not %v", n, states(k), set, len(got), e, code)
				}
			}
		}
	}
}

// checkSeal holds Seal against kem's, under the version that is to seal.
func checkSeal(t *testing.T, k api.Key, m []byte) {
	t.Helper()
	n, c, secret, e := Seal(k, m)
	v, ok := slowCurrent(k)
	if !ok {
		if n != 0 || len(c) != 0 || len(secret) != 0 || !is(e, api.ErrState) {
			t.Errorf("P17.3: Seal of%s: %d, %v", states(k), n, e)
		}
		return
	}
	seal, _ := ofKem(t, k.Set, v.Seed)
	wantC, want, refused := kem.Seal(k.Set, seal, m)
	if refused != nil {
		if n != 0 || len(c) != 0 || len(secret) != 0 || !is(e, api.Code(refused)) {
			t.Errorf("P17.3: Seal of%s, a message of %d bytes: %d, %v", states(k), len(m), n, e)
		}
		return
	}
	if n != v.N || !bytes.Equal(c, wantC) || !bytes.Equal(secret, want) || e != nil {
		t.Errorf("P17.3: Seal of%s is not kem's by version %d: %d, %v", states(k), v.N, n, e)
	}
}

// checkOpen holds Open of a version against kem's.
func checkOpen(t *testing.T, k api.Key, n int, c []byte) {
	t.Helper()
	got, e := Open(k, n, c)
	var want []byte
	code := api.ErrNone
	if n >= 1 && n <= len(k.Versions) {
		code = api.ErrState
		if v := k.Versions[n-1]; v.State == api.Enabled {
			_, open := ofKem(t, k.Set, v.Seed)
			b, refused := kem.Open(k.Set, open, c)
			want, code = b, api.Code(refused)
		}
	}
	if !is(e, code) || !bytes.Equal(got, want) {
		t.Errorf("P17.3: Open of version %d of%s, %d bytes: %v, not %v, or another secret", n, states(k), len(c), e, code)
	}
}

func TestSealOfEveryKey(t *testing.T) {
	set := 0
	everyKey(4, func(k api.Key) {
		set = set%3 + 1
		checkSeal(t, ofSet(k, set), some(32, len(states(k))))
		checkSeal(t, ofSet(k, set), some(31, 1))
	})
	for _, k := range []api.Key{five(), keyOf(1, 1, 1, 1, 1), keyOf(2, 2, 2, 2, 1), keyOf(1, 2, 3, 4, 4), keyOf(2, 2, 3, 3, 4)} {
		for set := 1; set <= 3; set++ {
			for _, m := range [][]byte{some(32, 1), make([]byte, 32), bytes.Repeat([]byte{255}, 32)} {
				checkSeal(t, ofSet(k, set), m)
			}
		}
	}
}

// What is no message: as long as kem's, or not.
func TestSealOfOtherSizes(t *testing.T) {
	for set := 1; set <= 3; set++ {
		for _, size := range []int{0, 1, 16, 31, 32, 33, 63, 64, 256 + 32, 1<<16 + 32} {
			m := make([]byte, size+40)[:size]
			checkSeal(t, ofSet(four(), set), m)
			checkSeal(t, ofSet(keyOf(2, 3, 4), set), m)
			code := api.OK
			if size != 32 {
				code = api.ErrSize
			}
			n, c, secret, e := Seal(ofSet(four(), set), m)
			if !is(e, code) || (n == 1) != (size == 32) || (len(c) > 0) != (size == 32) || (len(secret) == 32) != (size == 32) {
				t.Errorf("P17.3: Seal of a message of %d bytes: %d, %v", size, n, e)
			}
		}
	}
}

// What a version opens: its own, another one's, what nobody sealed, and what has another size.
func TestOpen(t *testing.T) {
	for set := 1; set <= 3; set++ {
		_, _, size := kem.Sizes(set)
		for _, k := range []api.Key{ofSet(four(), set), ofSet(five(), set), ofSet(keyOf(api.Gone, api.Enabled), set), ofSet(keyOf(api.Doomed), set)} {
			given := [][]byte{nil, {}, make([]byte, size), some(size, 1), some(size-1, 1), some(size+1, 1), make([]byte, size+8)[:size-1], some(768, 2), some(1088, 2), some(1568, 2), some(2*size, 3)}
			for n := 1; n <= 5; n++ {
				seal, _ := ofKem(t, set, some(64, n))
				c, _, _ := kem.Seal(set, seal, some(32, n))
				given = append(given, c)
			}
			for _, c := range given {
				for _, n := range []int{-1, 0, 1, 2, 3, 4, 5, 6, 256 + 1, math.MinInt, math.MaxInt} {
					checkOpen(t, k, n, c)
				}
			}
		}
	}
}

// The version comes first, then how it stands, then what is sealed; of Seal the version ahead of the message.
func TestWhichErrorOfSealingIsFirst(t *testing.T) {
	for _, x := range []struct {
		version int
		want    api.Errno
	}{{0, api.ErrNone}, {5, api.ErrNone}, {2, api.ErrState}, {3, api.ErrState}, {4, api.ErrState}, {1, api.ErrSize}} {
		if b, e := Open(four(), x.version, nil); len(b) != 0 || !is(e, x.want) {
			t.Errorf("P17.3: Open of version %d, no bytes: %v, not %v", x.version, e, x.want)
		}
	}
	if n, c, s, e := Seal(keyOf(2, 3, 4), nil); n != 0 || len(c) != 0 || len(s) != 0 || !is(e, api.ErrState) {
		t.Errorf("P17.3: Seal by no version, no message: %v", e)
	}
}

// What was sealed is opened by the version that Seal told, and by no other: behind Rotate too, and as long as that version is Enabled.
func TestSealedAndOpened(t *testing.T) {
	for set := 1; set <= 3; set++ {
		k, _ := New(1, 1, set, some(64, 1))
		n, c, secret, e := Seal(k, some(32, 1))
		if n != 1 || e != nil {
			t.Fatalf("P17.3: Seal of a new key: %d, %v", n, e)
		}
		opens := func(what string, k api.Key, code api.Errno) {
			t.Helper()
			got, e := Open(k, n, c)
			if !is(e, code) || code == api.OK && !bytes.Equal(got, secret) || code != api.OK && len(got) != 0 {
				t.Errorf("P17.3: %s: Open: %v, not %v, or another secret", what, e, code)
			}
		}
		turn := func(k api.Key, op, until int) api.Key {
			t.Helper()
			got, e := Set(k, op, n, until, 0)
			if e != nil {
				t.Fatalf("P17.2: Set %d: %v", op, e)
			}
			return got
		}
		opens("new", k, api.OK)
		k, _ = Rotate(k, some(64, 2))
		opens("rotated", k, api.OK)
		if n2, c2, s2, _ := Seal(k, some(32, 1)); n2 != 2 || bytes.Equal(c2, c) || bytes.Equal(s2, secret) {
			t.Errorf("P17.3: Seal behind Rotate is by version %d", n2)
		}
		if other, e := Open(k, 2, c); e != nil || len(other) != 32 || bytes.Equal(other, secret) {
			t.Errorf("P17.3: Open by another version: %v, or the same secret", e)
		}
		off := turn(k, api.OpDisable, 0)
		opens("disabled", off, api.ErrState)
		opens("enabled again", turn(off, api.OpEnable, 0), api.OK)
		gone := turn(off, api.OpSchedule, 5)
		opens("doomed", gone, api.ErrState)
		opens("doomed at once", turn(k, api.OpSchedule, 5), api.ErrState)
		opens("saved", turn(gone, api.OpCancel, 0), api.ErrState)
		opens("saved and enabled", turn(turn(gone, api.OpCancel, 0), api.OpEnable, 0), api.OK)
		swept, many := Sweep(gone, 5)
		opens("gone", swept, api.ErrState)
		if b, e := Public(gone, 1); len(b) == 0 || e != nil {
			t.Errorf("P17.3: Public of a Doomed version: %v", e)
		}
		if b, e := Public(swept, 1); many != 1 || len(b) != 0 || !is(e, api.ErrState) {
			t.Errorf("P17.3: Public of a Gone version: %v", e)
		}
		for op := api.OpEnable; op <= api.OpCancel; op++ {
			if _, e := Set(swept, op, 1, 9, 0); !is(e, api.ErrState) {
				t.Errorf("P17.2: Set %d of a Gone version: %v", op, e)
			}
		}
		if n3, _, _, e := Seal(swept, some(32, 1)); n3 != 2 || e != nil {
			t.Errorf("P17.3: Seal by version %d: %v", n3, e)
		}
	}
}

// Of sets 2 and 3 the library of the language seals and opens, too.
func TestSealedByTheLibrary(t *testing.T) {
	middle, e := mlkem.NewDecapsulationKey768(some(64, 3))
	if e != nil {
		t.Fatal(e)
	}
	most, e := mlkem.NewDecapsulationKey1024(some(64, 3))
	if e != nil {
		t.Fatal(e)
	}
	for set, by := range map[int]struct {
		public      []byte
		encapsulate func() ([]byte, []byte)
		decapsulate func([]byte) ([]byte, error)
	}{
		2: {middle.EncapsulationKey().Bytes(), middle.EncapsulationKey().Encapsulate, middle.Decapsulate},
		3: {most.EncapsulationKey().Bytes(), most.EncapsulationKey().Encapsulate, most.Decapsulate},
	} {
		k := ofSet(keyOf(2, 4, 1, 3), set)
		if got, e := Public(k, 3); e != nil || !bytes.Equal(got, by.public) {
			t.Errorf("P17.3: Public of set %d is not the library's: %v", set, e)
		}
		secret, c := by.encapsulate()
		if got, e := Open(k, 3, c); e != nil || !bytes.Equal(got, secret) {
			t.Errorf("P17.3: Open of what the library sealed by set %d: %v, or another secret", set, e)
		}
		n, c, secret, e := Seal(k, some(32, 8))
		if got, refused := by.decapsulate(c); n != 3 || e != nil || refused != nil || !bytes.Equal(got, secret) {
			t.Errorf("P17.3: the library opens what Seal told of set %d: %v, %v, or another secret", set, e, refused)
		}
	}
}

// Keys live by drawn calls, each held against the slow ones; what they become may be.
func TestDrawnLives(t *testing.T) {
	from := rand.New(rand.NewPCG(17, 0))
	seen := map[int]int{}
	for range 300 {
		k, e := New(1+from.IntN(6), 1+from.IntN(8), 1+from.IntN(3), some(64, from.IntN(99)))
		if e != nil {
			t.Fatal(e)
		}
		clock := 0
		for range 40 {
			switch from.IntN(4) {
			case 0:
				more, e := Rotate(k, some(64, from.IntN(99)))
				if (e == nil) != (len(k.Versions) < 5) {
					t.Errorf("P17.1: Rotate of%s: %v", states(k), e)
				}
				if e == nil {
					k = more
				}
			case 1:
				clock += from.IntN(4)
				checkSweep(t, k, clock)
				k, _ = Sweep(k, clock)
			default:
				op, version, until := 4+from.IntN(6), from.IntN(len(k.Versions)+2), clock-1+from.IntN(6)
				checkSet(t, k, op, version, until, clock)
				if other, e := Set(k, op, version, until, clock); e == nil {
					k = other
				}
			}
			checkVersions(t, k)
			if !May(k) || !slowMay(k) {
				t.Fatalf("P17.2: a key that lives may not be:%s", states(k))
			}
			for _, v := range k.Versions {
				seen[v.State]++
			}
		}
	}
	for state := 1; state <= 4; state++ {
		if seen[state] < 300 {
			t.Errorf("only %d versions of state %d are tried", seen[state], state)
		}
	}
}
