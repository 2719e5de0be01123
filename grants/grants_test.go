package grants

import (
	"bytes"
	"crypto/sha3"
	"encoding/binary"
	"encoding/hex"
	"errors"
	"math"
	"math/rand/v2"
	"slices"
	"strconv"
	"testing"

	"chatelaine/api"
)

// The bits that a grant's Ops may have, by their numbers.
const (
	sealBit   = 512
	openBit   = 1024
	resealBit = 2048
)

// is tells whether an error is a Fault with that Errno, or none of OK.
func is(e error, want api.Errno) bool {
	if want == api.OK {
		return e == nil
	}
	var f *api.Fault
	return errors.As(e, &f) && f.Code == want && errors.Is(e, want) && api.Code(e) == want
}

// some are so many bytes, the same of the same number.
func some(many int, k int) []byte {
	from, b := rand.New(rand.NewPCG(19, uint64(k))), make([]byte, many)
	for i := range b {
		b[i] = byte(from.Uint32())
	}
	return b
}

// full is a list of as many grants as may be: numbers at both bounds, each set of ops, some Revoked.
func full() []api.Grant {
	return []api.Grant{
		{ID: 1, Key: 1, To: 1, Ops: sealBit, Until: 1},
		{ID: 2, Key: 6, To: 6, Ops: openBit, Until: 1 << 40},
		{ID: 3, Key: 1, To: 6, Ops: resealBit, Until: 2, Revoked: true},
		{ID: 4, Key: 6, To: 1, Ops: sealBit | openBit, Until: 1<<40 - 1},
		{ID: 5, Key: 2, To: 3, Ops: openBit | resealBit, Until: 50},
		{ID: 6, Key: 2, To: 3, Ops: openBit | resealBit, Until: 50, Revoked: true},
		{ID: 7, Key: 3, To: 2, Ops: sealBit | resealBit, Until: 255},
		{ID: 8, Key: 5, To: 5, Ops: sealBit | openBit | resealBit, Until: 1 << 32, Revoked: true},
	}
}

// alike is a list of so many grants that differ by their IDs alone.
func alike(n int) []api.Grant {
	var l []api.Grant
	for i := range n {
		l = append(l, api.Grant{ID: i + 1, Key: 2, To: 3, Ops: openBit, Until: 50})
	}
	return l
}

func with(l []api.Grant, change func(l []api.Grant)) []api.Grant {
	l = slices.Clone(l)
	change(l)
	return l
}

// numbers are whole numbers beside the bounds of all fields, those that look like these where they are cut to fewer bits, and the ends.
func numbers() []int {
	found := []int{math.MinInt, math.MinInt + 1, math.MinInt + 2, math.MaxInt - 1, math.MaxInt, 1<<40 - 2, 1<<40 + 2}
	for _, base := range []int{0, 1 << 8, 1 << 16, 1 << 32, 1 << 40, 1 << 41, -1 << 32, -1 << 40} {
		for n := -2; n <= 9; n++ {
			found = append(found, base+n)
		}
	}
	slices.Sort(found)
	return slices.Compact(found)
}

// hasBit tells whether bit i of n's two's complement is 1, by dividing.
func hasBit(n int, i int) bool {
	left := uint64(n)
	for range i {
		left /= 2
	}
	return left%2 == 1
}

// slowMayStand goes by the chapter's words for one grant, but for its ID.
func slowMayStand(g api.Grant) bool {
	may, bits := true, 0
	for i := range 64 {
		if hasBit(g.Ops, i) {
			bits++
			may = may && (i == 9 || i == 10 || i == 11)
		}
	}
	return may && bits > 0 && 1 <= g.Key && g.Key <= 6 && 1 <= g.To && g.To <= 6 && 1 <= g.Until && g.Until <= 1099511627776
}

func slowMay(l []api.Grant) bool {
	for i, g := range l {
		if i == 8 || g.ID != i+1 || !slowMayStand(g) {
			return false
		}
	}
	return true
}

// slowAdd is what Add is to tell, by the chapter's words.
func slowAdd(l []api.Grant, g api.Grant) ([]api.Grant, int, api.Errno) {
	if !slowMay(l) || !slowMayStand(g) {
		return nil, 0, api.ErrArg
	}
	if len(l) == 8 {
		return nil, 0, api.ErrFull
	}
	next := api.Grant{ID: len(l) + 1, Key: g.Key, To: g.To, Ops: g.Ops, Until: g.Until}
	return append(slices.Clone(l), next), next.ID, api.OK
}

// slowRevoke is what Revoke is to tell, by the chapter's words.
func slowRevoke(l []api.Grant, id int) ([]api.Grant, api.Errno) {
	if !slowMay(l) {
		return nil, api.ErrArg
	}
	var other []api.Grant
	found := api.ErrNone
	for _, g := range l {
		if g.ID == id && g.Revoked {
			return nil, api.ErrState
		}
		if g.ID == id {
			g.Revoked, found = true, api.OK
		}
		other = append(other, g)
	}
	if found != api.OK {
		return nil, found
	}
	return other, api.OK
}

// slowToken goes by the chapter's words, and lays and hashes by the library.
func slowToken(secret []byte, g api.Grant) []byte {
	laid := append(binary.BigEndian.AppendUint64(nil, uint64(len(secret))), secret...)
	for _, n := range []int{g.ID, g.Key, g.To, g.Ops, g.Until} {
		laid = binary.BigEndian.AppendUint64(laid, uint64(n))
	}
	first := (g.ID%256 + 256) % 256
	return append([]byte{byte(first)}, sha3.SumSHAKE256(laid, 32)...)
}

// slowCheck is what Check is to tell, by the chapter's words.
func slowCheck(l []api.Grant, secret, token []byte) (api.Grant, api.Errno) {
	if !slowMay(l) {
		return api.Grant{}, api.ErrArg
	}
	for _, g := range l {
		if bytes.Equal(slowToken(secret, g), token) {
			return g, api.OK
		}
	}
	return api.Grant{}, api.ErrToken
}

// slowAllows is what Allows is to tell, by the chapter's words.
func slowAllows(g api.Grant, key, who, op, clock int) api.Errno {
	if g.Revoked || g.Key != key || g.To != who || op < 1 || op > 13 || !hasBit(g.Ops, op) || g.Until < clock {
		return api.ErrDeny
	}
	return api.OK
}

// checkAdd holds Add against what is to be told, and tells as what Errno that is.
func checkAdd(t *testing.T, what string, l []api.Grant, g api.Grant) api.Errno {
	t.Helper()
	had := slices.Clone(l)
	list, id, want := slowAdd(l, g)
	got, n, e := Add(l, g)
	if !is(e, want) || n != id || !slices.Equal(got, list) {
		t.Errorf("P19.1: Add of %v to %s: %v, %d, %v, not %v", g, what, got, n, e, want)
	}
	if !slices.Equal(l, had) {
		t.Errorf("R4: Add to %s changes the list", what)
	}
	return want
}

// checkRevoke holds Revoke against what is to be told, and tells as what Errno that is.
func checkRevoke(t *testing.T, what string, l []api.Grant, id int) api.Errno {
	t.Helper()
	had := slices.Clone(l)
	list, want := slowRevoke(l, id)
	got, e := Revoke(l, id)
	if !is(e, want) || !slices.Equal(got, list) {
		t.Errorf("P19.1: Revoke of %d in %s: %v, %v, not %v", id, what, got, e, want)
	}
	if !slices.Equal(l, had) {
		t.Errorf("R4: Revoke of %d in %s changes the list", id, what)
	}
	return want
}

// checkCheck holds Check against what is to be told, and tells as what Errno that is.
func checkCheck(t *testing.T, what string, l []api.Grant, secret, token []byte) api.Errno {
	t.Helper()
	had, hadSecret, hadToken := slices.Clone(l), bytes.Clone(secret), bytes.Clone(token)
	g, want := slowCheck(l, secret, token)
	got, e := Check(l, secret, token)
	if !is(e, want) || got != g {
		t.Errorf("P19.1: Check of %s: %v, %v, not %v", what, got, e, want)
	}
	if !slices.Equal(l, had) || !bytes.Equal(secret, hadSecret) || !bytes.Equal(token, hadToken) {
		t.Errorf("R4: Check of %s changes what it was given", what)
	}
	return want
}

// checkAllows holds Allows against what is to be told, and tells as what Errno that is.
func checkAllows(t *testing.T, g api.Grant, key, who, op, clock int) api.Errno {
	t.Helper()
	want := slowAllows(g, key, who, op, clock)
	if e := Allows(g, key, who, op, clock); !is(e, want) {
		t.Errorf("P19.1: Allows of %v, key %d, who %d, op %d, clock %d: %v, not %v", g, key, who, op, clock, e, want)
	}
	return want
}

// checkList holds each call against what is to be told of l.
func checkList(t *testing.T, what string, l []api.Grant, may bool) {
	t.Helper()
	if May(l) != may || slowMay(l) != may {
		t.Errorf("P19.1: May of %s is not %v", what, may)
	}
	for _, g := range []api.Grant{{Key: 1, To: 2, Ops: sealBit, Until: 3}, {ID: 9, Key: 6, To: 6, Ops: resealBit, Until: 1 << 40, Revoked: true}, {Key: 1, To: 2, Ops: 1, Until: 3}} {
		checkAdd(t, what, l, g)
	}
	for id := -1; id <= len(l)+1 && id <= 10; id++ {
		checkRevoke(t, what, l, id)
	}
	secret := some(32, 1)
	checkCheck(t, what+", no token", l, secret, nil)
	for _, g := range l[:min(len(l), 9)] {
		checkCheck(t, what+", a token", l, secret, slowToken(secret, g))
	}
}

func TestLimits(t *testing.T) {
	if api.MaxGrants != 8 || api.MaxKeys != 6 || api.MaxPeople != 6 || api.MaxClock != 1<<40 || 1<<api.OpSeal != sealBit || 1<<api.OpOpen != openBit || 1<<api.OpReseal != resealBit || api.OpTenant != 1 || api.OpRevoke != 13 {
		t.Fatal("the limits, or the ops, are other ones")
	}
}

func TestHowMany(t *testing.T) {
	for _, l := range [][]api.Grant{nil, {}, full()[:0], full()[4:4]} {
		checkList(t, "no grants", l, true)
	}
	long := append(full(), alike(12)[8:]...)
	for n := range 13 {
		checkList(t, strconv.Itoa(n)+" alike grants", alike(n), n <= 8)
		checkList(t, strconv.Itoa(n)+" grants", long[:n], n <= 8)
	}
	for _, n := range []int{16, 255, 256, 257, 264, 65536, 65537} {
		checkList(t, "very many grants", alike(n), false)
	}
}

func TestEachID(t *testing.T) {
	for _, l := range [][]api.Grant{full(), full()[:1], full()[:2], alike(5), alike(8)} {
		for i := range l {
			for _, id := range numbers() {
				checkList(t, "an ID at "+strconv.Itoa(i), with(l, func(l []api.Grant) { l[i].ID = id }), id == i+1)
			}
		}
	}
	checkList(t, "IDs from 0", with(full(), func(l []api.Grant) {
		for i := range l {
			l[i].ID--
		}
	}), false)
	checkList(t, "IDs turned round", with(full(), slices.Reverse), false)
	for i := range 7 {
		checkList(t, "two turned round", with(full(), func(l []api.Grant) { l[i], l[i+1] = l[i+1], l[i] }), false)
		checkList(t, "one twice", with(full(), func(l []api.Grant) { l[i+1] = l[i] }), false)
	}
	checkList(t, "none in the midst", slices.Delete(full(), 3, 4), false)
	checkList(t, "none at the beginning", full()[1:], false)
}

// field is one of a grant's numbers, and the greatest that it may be.
type field struct {
	name string
	most int
	at   func(g *api.Grant) *int
}

func fields() []field {
	return []field{
		{"Key", 6, func(g *api.Grant) *int { return &g.Key }},
		{"To", 6, func(g *api.Grant) *int { return &g.To }},
		{"Until", 1 << 40, func(g *api.Grant) *int { return &g.Until }},
	}
}

// Key, To and Until, at each place, at both sides of each bound, in a list and to be added to one.
func TestEachNumber(t *testing.T) {
	for _, f := range fields() {
		for _, n := range numbers() {
			may := 1 <= n && n <= f.most
			for _, l := range [][]api.Grant{full(), full()[:1], alike(5)} {
				for i := range l {
					checkList(t, f.name+" "+strconv.Itoa(n), with(l, func(l []api.Grant) { *f.at(&l[i]) = n }), may)
				}
			}
			g := full()[4]
			*f.at(&g) = n
			for count, want := range []api.Errno{0, 0, 0, 0, 0, 0, 0, 0, api.ErrFull} {
				if !may {
					want = api.ErrArg
				}
				if got := checkAdd(t, strconv.Itoa(count)+" grants", full()[:count], g); got != want {
					t.Errorf("P19.1: Add of %s %d to %d grants: %v, not %v", f.name, n, count, got, want)
				}
			}
		}
	}
}

// opsThatMay are the seven sets of the three bits.
func opsThatMay() []int {
	return []int{512, 1024, 1536, 2048, 2560, 3072, 3584}
}

// checkOps holds May and Add of a grant with these Ops against whether it may have them.
func checkOps(t *testing.T, ops int) {
	t.Helper()
	l := with(full(), func(l []api.Grant) { l[5].Ops = ops })
	may := slices.Contains(opsThatMay(), ops)
	if May(l) != may || May(l[:6]) != may || !May(l[:5]) {
		t.Errorf("P19.1: May of Ops %d is not %v", ops, may)
	}
	want := api.OK
	if !may {
		want = api.ErrArg
	}
	if got := checkAdd(t, "five grants", full()[:5], l[5]); got != want {
		t.Errorf("P19.1: Add of Ops %d: %v, not %v", ops, got, want)
	}
}

// All Ops of 16 bits; each higher bit alone, and beside what may be; those below 0.
func TestEachOps(t *testing.T) {
	for ops := range 1 << 16 {
		checkOps(t, ops)
		checkOps(t, -ops)
	}
	for i := range 64 {
		for _, ops := range append(opsThatMay(), 0) {
			checkOps(t, ops|1<<i)
			checkOps(t, ops|math.MinInt>>i)
		}
	}
	for _, ops := range append(numbers(), opsThatMay()...) {
		checkList(t, "Ops "+strconv.Itoa(ops), with(full(), func(l []api.Grant) { l[0].Ops = ops }), slices.Contains(opsThatMay(), ops))
	}
}

// Whether grants are Revoked counts for Revoke alone.
func TestEachRevoked(t *testing.T) {
	secret := some(32, 2)
	for bits := range 1 << 8 {
		l := with(full(), func(l []api.Grant) {
			for i := range l {
				l[i].Revoked = hasBit(bits, i)
			}
		})
		checkList(t, "some Revoked", l, true)
		checkList(t, "some Revoked, not full", l[:7], true)
		for i, g := range l {
			want := api.OK
			if g.Revoked {
				want = api.ErrState
			}
			if got := checkRevoke(t, "some Revoked", l, i+1); got != want {
				t.Errorf("P19.1: Revoke of %d: %v, not %v", i+1, got, want)
			}
			if got, e := Check(l, secret, Token(secret, with(l, func(l []api.Grant) { l[i].Revoked = !g.Revoked })[i])); e != nil || got != g {
				t.Errorf("P19.1: Check of %v: %v, %v", g, got, e)
			}
		}
	}
}

// A grant's ID, and whether it is Revoked, are not asked when it is added.
func TestAddOfAnyID(t *testing.T) {
	for _, id := range numbers() {
		for n := range 8 {
			want := api.Grant{ID: n + 1, Key: 4, To: 5, Ops: sealBit | resealBit, Until: 77}
			for _, revoked := range []bool{false, true} {
				g := want
				g.ID, g.Revoked = id, revoked
				checkAdd(t, strconv.Itoa(n)+" grants", full()[:n], g)
				if l, next, e := Add(full()[:n], g); e != nil || next != n+1 || len(l) != n+1 || l[n] != want || !May(l) {
					t.Errorf("P19.1: Add of %v to %d grants: %v, %d, %v", g, n, l, next, e)
				}
			}
		}
	}
}

// Lists grow by Add from none on, until they are full; each may be revoked once.
func TestAddUntilFullAndRevoke(t *testing.T) {
	from := rand.New(rand.NewPCG(19, 1))
	for range 300 {
		var l []api.Grant
		for step := range 40 {
			g := api.Grant{ID: from.IntN(9), Key: from.IntN(8), To: from.IntN(8), Ops: []int{0, 512, 1024, 2048, 3584, 4096, 513}[from.IntN(7)], Until: from.IntN(3), Revoked: from.IntN(2) == 0}
			id := from.IntN(10)
			want := checkAdd(t, "a list that grows", l, g)
			if more, n, e := Add(l, g); want == api.OK && e == nil {
				if l = more; n != len(l) {
					t.Errorf("P19.1: Add is the %d-th of %d", n, len(l))
				}
			}
			if step%4 == 0 && checkRevoke(t, "a list that grows", l, id) == api.OK {
				l, _ = Revoke(l, id)
				if got := checkRevoke(t, "a list that grows", l, id); got != api.ErrState {
					t.Errorf("P19.1: Revoke of %d, twice: %v", id, got)
				}
			}
		}
		if len(l) == 8 && checkAdd(t, "a full list", l, full()[0]) != api.ErrFull {
			t.Error("P19.1: a full list takes one more")
		}
	}
}

func TestRevokeOfNoID(t *testing.T) {
	for _, l := range [][]api.Grant{nil, {}, full(), full()[:1], full()[:3], alike(7), alike(8)} {
		for _, id := range numbers() {
			want := api.ErrNone
			if 1 <= id && id <= len(l) {
				want = api.OK
				if l[id-1].Revoked {
					want = api.ErrState
				}
			}
			if got := checkRevoke(t, strconv.Itoa(len(l))+" grants", l, id); got != want {
				t.Errorf("P19.1: Revoke of %d of %d grants: %v, not %v", id, len(l), got, want)
			}
		}
	}
}

// The list comes first, then the grant, then how many there are; the list, then the ID, then how it stands.
func TestWhichErrorIsFirst(t *testing.T) {
	good, bad := full()[0], api.Grant{Key: 1, To: 1, Until: 1}
	wrong := with(full(), func(l []api.Grant) { l[6].Key = 7 })
	for _, x := range []struct {
		what string
		l    []api.Grant
		g    api.Grant
		want api.Errno
	}{
		{"a wrong list", wrong[:7], good, api.ErrArg},
		{"a wrong list that is full", wrong, good, api.ErrArg},
		{"a wrong list that is full, a wrong grant", wrong, bad, api.ErrArg},
		{"a list too long", alike(9), good, api.ErrArg},
		{"a list too long, a wrong grant", alike(9), bad, api.ErrArg},
		{"a wrong grant", full()[:3], bad, api.ErrArg},
		{"a wrong grant, no grants", nil, bad, api.ErrArg},
		{"no grant at all", nil, api.Grant{}, api.ErrArg},
		{"a wrong grant, full", full(), bad, api.ErrArg},
		{"full", full(), good, api.ErrFull},
		{"one less than full", full()[:7], good, api.OK},
		{"no grants", nil, good, api.OK},
	} {
		if got := checkAdd(t, x.what, x.l, x.g); got != x.want {
			t.Errorf("P19.1: Add to %s: %v, not %v", x.what, got, x.want)
		}
	}
	for _, x := range []struct {
		what string
		l    []api.Grant
		id   int
		want api.Errno
	}{
		{"a wrong list", wrong, 1, api.ErrArg},
		{"a wrong list, one Revoked", wrong, 3, api.ErrArg},
		{"a wrong list, the wrong one", wrong, 7, api.ErrArg},
		{"a wrong list, no such ID", wrong, 9, api.ErrArg},
		{"a list too long", alike(9), 9, api.ErrArg},
		{"a list too long, no such ID", alike(9), 0, api.ErrArg},
		{"no grants", nil, 1, api.ErrNone},
		{"one Revoked", full(), 3, api.ErrState},
		{"another one", full(), 4, api.OK},
		{"one of another key", full(), 7, api.OK},
	} {
		if got := checkRevoke(t, x.what, x.l, x.id); got != x.want {
			t.Errorf("P19.1: Revoke in %s: %v, not %v", x.what, got, x.want)
		}
	}
}

// everyList hands out all lists of n of these grants.
func everyList(n int, of []api.Grant, each func(l []api.Grant)) {
	l := make([]api.Grant, n)
	var choose func(i int)
	choose = func(i int) {
		if i == n {
			each(l)
			return
		}
		for _, l[i] = range of {
			choose(i + 1)
		}
	}
	choose(0)
}

// All lists of up to three grants of small numbers, right or wrong.
func TestEveryShortList(t *testing.T) {
	var of []api.Grant
	for id := range 4 {
		for _, key := range []int{0, 6} {
			for _, to := range []int{1, 7} {
				for _, ops := range []int{0, 512, 4608} {
					of = append(of, api.Grant{ID: id, Key: key, To: to, Ops: ops, Until: 1, Revoked: key == to-1})
				}
			}
		}
	}
	for n := range 4 {
		right := 0
		everyList(n, of, func(l []api.Grant) {
			may := slowMay(l)
			if May(l) != may {
				t.Errorf("P19.1: May of %v is not %v", l, may)
			}
			if may {
				right++
				checkList(t, "a short list", l, true)
			}
		})
		if right != 1 {
			t.Errorf("%d lists of %d grants may be, not 1", right, n)
		}
	}
}

// odd is a grant of any numbers, most often such as may be.
func odd(from *rand.Rand) api.Grant {
	n := numbers()
	g := api.Grant{ID: 1 + from.IntN(8), Key: 1 + from.IntN(6), To: 1 + from.IntN(6), Ops: 512 * (1 + from.IntN(7)), Until: 1 + from.IntN(1<<40), Revoked: from.IntN(2) == 0}
	for _, at := range []*int{&g.ID, &g.Key, &g.To, &g.Ops, &g.Until} {
		if from.IntN(40) == 0 {
			*at = n[from.IntN(len(n))]
		}
	}
	return g
}

func TestDrawnLists(t *testing.T) {
	from := rand.New(rand.NewPCG(19, 2))
	right, wrong := 0, 0
	for range 2000 {
		var l []api.Grant
		for i := range from.IntN(10) {
			g := odd(from)
			if from.IntN(40) > 0 {
				g.ID = i + 1
			}
			l = append(l, g)
		}
		may := slowMay(l)
		checkList(t, "a drawn list", l, may)
		checkAdd(t, "a drawn list", l, odd(from))
		if may {
			right++
		} else {
			wrong++
		}
	}
	if right < 500 || wrong < 500 {
		t.Errorf("%d lists that may be are tried, and %d that may not", right, wrong)
	}
}

// Tokens that were made by another program.
func TestTokensByHand(t *testing.T) {
	small := make([]byte, 32)
	for i := range small {
		small[i] = byte(i)
	}
	for _, x := range []struct {
		secret []byte
		g      api.Grant
		want   string
	}{
		{nil, api.Grant{ID: 1, Key: 1, To: 1, Ops: 512, Until: 1}, "01da500d162c43707f0d865c6c2cfb8458fb8c290f0fb1ac7ed51c1a88007c60d3"},
		{[]byte("a secret"), api.Grant{ID: 2, Key: 6, To: 3, Ops: 1536, Until: 1 << 40, Revoked: true}, "0233ca373e90e1a868e46a2b7a63ca50071d5d47e72e77502972f6543903ca5794"},
		{small, api.Grant{ID: -1, Key: -2, To: -3, Ops: -4, Until: -5}, "ffdba2e0836001e4cfb7eb3dc0cd4971333734caec14f4fb4dd4617b86f7d4ec0e"},
		{small, api.Grant{ID: 258}, "02ef800c88036c5923a706d66bb6c62ef1e453ccd6b6133ca337cc41585b84a10f"},
	} {
		if got := hex.EncodeToString(Token(x.secret, x.g)); got != x.want {
			t.Errorf("P19.1: Token of %v is %s, not %s", x.g, got, x.want)
		}
	}
}

// checkToken holds Token against the slow one.
func checkToken(t *testing.T, secret []byte, g api.Grant) {
	t.Helper()
	had := bytes.Clone(secret)
	got := Token(secret, g)
	if len(got) != 33 || !bytes.Equal(got, slowToken(secret, g)) {
		t.Errorf("P19.1: Token of a secret of %d bytes and %v is another one", len(secret), g)
	}
	if !bytes.Equal(secret, had) {
		t.Errorf("R4: Token of a secret of %d bytes changes it", len(secret))
	}
}

// Secrets of no byte and of many: of what goes into the sponge in one part, and in several.
func TestTokenOfEachSecret(t *testing.T) {
	for n := range 600 {
		for _, g := range []api.Grant{{}, full()[0], full()[1], {ID: -1, Key: -1, To: -1, Ops: -1, Until: -1}} {
			checkToken(t, some(n, n), g)
		}
	}
	for _, n := range []int{4096, 65535, 65536, 65537, 1 << 20} {
		checkToken(t, some(n, n), full()[4])
	}
	if !bytes.Equal(Token(nil, full()[0]), Token([]byte{}, full()[0])) {
		t.Error("P19.1: Tokens of no secret, nil or empty, differ")
	}
}

// Each field is any whole number, whether the grant may be in a list or not.
func TestTokenOfEachNumber(t *testing.T) {
	secret := some(32, 3)
	for _, n := range append(numbers(), 254, 255, 256, 257, 258, 511, 512, 513, -255, -256, -257, -258) {
		for _, g := range []api.Grant{{ID: n}, {Key: n}, {To: n}, {Ops: n}, {Until: n}, {ID: n, Key: n, To: n, Ops: n, Until: n}, {ID: n, Key: 1, To: 2, Ops: 512, Until: 3, Revoked: true}} {
			checkToken(t, secret, g)
			if first := Token(secret, g)[0]; int(first) != (g.ID%256+256)%256 {
				t.Errorf("P19.1: the first byte of the Token of ID %d is %d", g.ID, first)
			}
		}
	}
}

// Grants that differ in one field, or have numbers in other places, and secrets that run into one another have each a token of its own.
func TestTokensDiffer(t *testing.T) {
	var secrets [][]byte
	for _, b := range []string{"", "\x00", "\x00\x00", "\x01", "a", "b", "ab", "ba", "a\x00", "\x00\x00\x00\x00\x00\x00\x00\x01"} {
		secrets = append(secrets, []byte(b))
	}
	secrets = append(secrets, some(32, 4), some(32, 4)[:31], append(some(32, 4), 0), some(32, 5))
	found := map[string]int{}
	count := 0
	for _, secret := range secrets {
		for digits := range 243 {
			n := [5]int{}
			for i, left := 0, digits; i < 5; i, left = i+1, left/3 {
				n[i] = []int{0, 1, 256}[left%3]
			}
			g := api.Grant{ID: n[0], Key: n[1], To: n[2], Ops: n[3], Until: n[4]}
			token := Token(secret, g)
			found[string(token)]++
			found[string(token[1:])]++
			count += 2
			g.Revoked = true
			if !bytes.Equal(Token(secret, g), token) {
				t.Errorf("P19.1: the Token of %v is another one, as it is Revoked", g)
			}
		}
	}
	if len(found) != count {
		t.Errorf("P19.1: of %d Tokens there are %d", count, len(found))
	}
}

// Each grant of a list is found by its token, wherever it stands, and by no other one's.
func TestCheckOfEach(t *testing.T) {
	for _, secret := range [][]byte{nil, {}, some(1, 1), some(32, 6), some(200, 7)} {
		for n := range 9 {
			for _, l := range [][]api.Grant{full()[:n], alike(n)} {
				for i, g := range full() {
					token, want := Token(secret, g), api.ErrToken
					if i < n && l[i] == g {
						want = api.OK
					}
					if got := checkCheck(t, "a list of "+strconv.Itoa(n), l, secret, token); got != want {
						t.Errorf("P19.1: Check of the %d-th token in %d grants: %v, not %v", i+1, n, got, want)
					}
				}
			}
		}
	}
}

// No token but a whole one counts: none cut short or with more behind it, none with any of its bits turned.
func TestCheckOfTokensThatAreNone(t *testing.T) {
	l, secret := full(), some(32, 8)
	for _, g := range l {
		token := Token(secret, g)
		wrong := [][]byte{nil, {}, token[1:], bytes.Repeat([]byte{0}, 33), append([]byte{0}, token...), slices.Concat(token, token), slices.Concat(token, Token(secret, l[0]))}
		for n := range token {
			wrong = append(wrong, token[:n], token[n:][1:])
		}
		for _, more := range []byte{0, 1, 255, token[0]} {
			wrong = append(wrong, append(bytes.Clone(token), more))
		}
		for i := range 8 * len(token) {
			turned := bytes.Clone(token)
			turned[i/8] ^= 1 << (i % 8)
			wrong = append(wrong, turned)
		}
		for i := range 32 {
			swapped := bytes.Clone(token)
			swapped[i], swapped[i+1] = swapped[i+1], swapped[i]
			if !bytes.Equal(swapped, token) {
				wrong = append(wrong, swapped)
			}
		}
		for _, other := range l {
			if other.ID != g.ID {
				wrong = append(wrong, append([]byte{byte(other.ID)}, token[1:]...))
			}
		}
		for i, b := range wrong {
			if got := checkCheck(t, "a token that is none", l, secret, b); got != api.ErrToken {
				t.Errorf("P19.1: Check of the %d-th of what is no token: %v", i, got)
			}
		}
	}
}

func TestCheckByAnotherSecret(t *testing.T) {
	l, secret := full(), some(32, 9)
	for i := range l {
		token := Token(secret, l[i])
		for j, other := range [][]byte{nil, secret[:31], secret[1:], append(bytes.Clone(secret), 0), some(32, 10), make([]byte, 32), token} {
			if got := checkCheck(t, "another secret", l, other, token); got != api.ErrToken {
				t.Errorf("P19.1: Check by the %d-th other secret: %v", j, got)
			}
		}
		for bit := range 256 {
			other := bytes.Clone(secret)
			other[bit/8] ^= 1 << (bit % 8)
			if got := checkCheck(t, "a secret with a bit turned", l, other, token); got != api.ErrToken {
				t.Errorf("P19.1: Check by a secret with bit %d turned: %v", bit, got)
			}
		}
	}
}

// A token tells of all fields but Revoked: of a list where one is another, it is the token of none.
func TestCheckOfAnotherGrant(t *testing.T) {
	secret := some(32, 11)
	for i, g := range full() {
		token := Token(secret, g)
		for j, change := range []func(g *api.Grant){func(g *api.Grant) { g.Key = g.Key%6 + 1 }, func(g *api.Grant) { g.To = g.To%6 + 1 }, func(g *api.Grant) { g.Ops = g.Ops%3584 + 512 }, func(g *api.Grant) { g.Until = g.Until%(1<<40) + 1 }} {
			l := with(full(), func(l []api.Grant) { change(&l[i]) })
			if got := checkCheck(t, "a list with another field", l, secret, token); !May(l) || got != api.ErrToken {
				t.Errorf("P19.1: Check of grant %d, change %d: %v", i+1, j, got)
			}
			if got := checkCheck(t, "a list with another field, its own token", l, secret, Token(secret, l[i])); got != api.OK {
				t.Errorf("P19.1: Check of grant %d, change %d, its own token: %v", i+1, j, got)
			}
			checkCheck(t, "fewer grants", l[:i], secret, token)
		}
		for _, id := range []int{0, 9, g.ID + 256, g.ID - 256, g.ID + 1<<32, -g.ID} {
			other := g
			other.ID = id
			if got := checkCheck(t, "a token of another ID", full(), secret, Token(secret, other)); got != api.ErrToken {
				t.Errorf("P19.1: Check of grant %d by a token of ID %d: %v", g.ID, id, got)
			}
		}
	}
}

// A list that may not be is told of ahead of what is no token; its tokens open nothing.
func TestCheckOfListsThatMayNotBe(t *testing.T) {
	secret := some(32, 12)
	for name, l := range map[string][]api.Grant{
		"too many": alike(9), "an ID": full()[1:], "a key": with(full(), func(l []api.Grant) { l[7].Key = 0 }), "a person": with(full(), func(l []api.Grant) { l[7].To = 7 }),
		"no ops": with(full(), func(l []api.Grant) { l[7].Ops = 0 }), "an op": with(full(), func(l []api.Grant) { l[7].Ops |= 4096 }), "a time": with(full(), func(l []api.Grant) { l[7].Until = 1<<40 + 1 }), "no grant": {{}},
	} {
		for _, g := range append(full(), l...) {
			if got := checkCheck(t, name, l, secret, Token(secret, g)); got != api.ErrArg {
				t.Errorf("P19.1: Check of a list that may not be, %s: %v", name, got)
			}
		}
		if got := checkCheck(t, name, l, secret, nil); got != api.ErrArg {
			t.Errorf("P19.1: Check of a list that may not be, %s, no token: %v", name, got)
		}
	}
}

// ops are kinds of requests that are, those beside them, and numbers by which a shift would wrap round.
func ops() []int {
	found := numbers()
	for n := -70; n <= 140; n++ {
		found = append(found, n)
	}
	return append(found, 255, 256, 1<<8+9, 1<<16+9, 1<<32+9, 1<<40+9, math.MaxInt-54, math.MinInt+9)
}

// Each op, by Ops of each bit alone, all of them, none, and those that may be in a list.
func TestAllowsEachOp(t *testing.T) {
	sets := append(opsThatMay(), 0, -1, 1, math.MaxInt, math.MinInt, 0x2aaa, 0x1555, 0x3ffe, ^0x3ffe, ^512)
	for i := range 64 {
		sets = append(sets, 1<<i, ^(1 << i))
	}
	for _, set := range sets {
		g := api.Grant{ID: 1, Key: 2, To: 3, Ops: set, Until: 50}
		for _, op := range ops() {
			want := api.ErrDeny
			if 1 <= op && op <= 13 && hasBit(set, op) {
				want = api.OK
			}
			if got := checkAllows(t, g, 2, 3, op, 50); got != want {
				t.Errorf("P19.1: Allows of Ops %d, op %d: %v, not %v", set, op, got, want)
			}
		}
	}
}

// Each of a grant's fields alone is another, with all else in order.
func TestAllowsEachAlone(t *testing.T) {
	for _, g := range []api.Grant{{ID: 1, Key: 2, To: 3, Ops: openBit, Until: 50}, {Key: 6, To: 1, Ops: sealBit | openBit, Until: 1 << 40}, {ID: -4, Key: 0, To: 0, Ops: -1, Until: -7}, {Key: math.MinInt, To: math.MaxInt, Ops: 1 << 10, Until: math.MinInt}} {
		if got := checkAllows(t, g, g.Key, g.To, api.OpOpen, g.Until); got != api.OK {
			t.Errorf("P19.1: Allows of %v: %v", g, got)
		}
		revoked := g
		revoked.Revoked = true
		if got := checkAllows(t, revoked, g.Key, g.To, api.OpOpen, g.Until); got != api.ErrDeny {
			t.Errorf("P19.1: Allows of %v: %v", revoked, got)
		}
		for _, n := range append(numbers(), 50, 49, 51, -6, -8) {
			checkAllows(t, g, n, g.To, api.OpOpen, g.Until)
			checkAllows(t, g, g.Key, n, api.OpOpen, g.Until)
			want := api.OK
			if g.Until < n {
				want = api.ErrDeny
			}
			if got := checkAllows(t, g, g.Key, g.To, api.OpOpen, n); got != want {
				t.Errorf("P19.1: Allows of %v at %d: %v, not %v", g, n, got, want)
			}
		}
	}
}

// All of what Allows asks, in order or not.
func TestAllowsEachSet(t *testing.T) {
	allowed := 0
	for bits := range 1 << 6 {
		g := api.Grant{ID: 5, Key: 2, To: 3, Ops: openBit | resealBit, Until: 50, Revoked: hasBit(bits, 0)}
		key, who, op, clock := 2, 3, api.OpReseal, 50
		for i, change := range []func(){func() { key = 3 }, func() { who = 2 }, func() { op = api.OpSeal }, func() { clock = 51 }, func() { g.Ops = sealBit << 32 }} {
			if hasBit(bits, i+1) {
				change()
			}
		}
		if checkAllows(t, g, key, who, op, clock) == api.OK {
			allowed++
		}
	}
	if allowed != 1 {
		t.Errorf("%d sets are allowed, not 1", allowed)
	}
}

func TestDrawnAllows(t *testing.T) {
	from := rand.New(rand.NewPCG(19, 3))
	allowed := 0
	for range 200000 {
		g := api.Grant{ID: from.IntN(9), Key: from.IntN(2), To: from.IntN(2), Ops: int(from.Uint64()), Until: from.IntN(3), Revoked: from.IntN(4) == 0}
		if checkAllows(t, g, from.IntN(2), from.IntN(2), from.IntN(17)-1, from.IntN(3)) == api.OK {
			allowed++
		}
	}
	if allowed < 1000 {
		t.Errorf("%d are allowed", allowed)
	}
}

// The chapter's example, and what the document tells of a grant's life.
func TestExamples(t *testing.T) {
	secret := some(32, 13)
	l, first, e := Add(nil, api.Grant{Key: 1, To: 2, Ops: sealBit, Until: 50})
	if e != nil || first != 1 {
		t.Fatalf("P19.1: Add of the first one: %d, %v", first, e)
	}
	l, second, e := Add(l, api.Grant{Key: 1, To: 3, Ops: openBit, Until: 60})
	if e != nil || second != 2 {
		t.Fatalf("P19.1: Add of the second one: %d, %v", second, e)
	}
	token := Token(secret, l[1])
	g, e := Check(l, secret, token)
	if e != nil || g != l[1] || Allows(g, 1, 3, api.OpOpen, 60) != nil {
		t.Errorf("P19.1: Check of the second one: %v, %v", g, e)
	}
	l, e = Revoke(l, 2)
	if e != nil {
		t.Fatalf("P19.1: Revoke: %v", e)
	}
	g, e = Check(l, secret, token)
	if e != nil || !g.Revoked || g.ID != 2 || !is(Allows(g, 1, 3, api.OpOpen, 60), api.ErrDeny) {
		t.Errorf("P19.1: Check of a Revoked one: %v, %v", g, e)
	}
}
