package ask

import (
	"bytes"
	"encoding/binary"
	"errors"
	"math"
	"math/rand/v2"
	"slices"
	"strings"
	"testing"

	"chatelaine/api"
)

// is tells whether an error is a Fault with that Errno, or none of OK.
func is(e error, want api.Errno) bool {
	if want == api.OK {
		return e == nil
	}
	var f *api.Fault
	return errors.As(e, &f) && f.Code == want && errors.Is(e, want) && api.Code(e) == want
}

// mixed are n bytes, other ones for each k.
func mixed(n, k int) []byte {
	b, from := make([]byte, n), rand.New(rand.NewPCG(uint64(n), uint64(k)))
	for i := range b {
		b[i] = byte(from.Uint64())
	}
	return b
}

// field is a number of a request, with the numbers from and to which it may be.
type field struct {
	name   string
	of     func(a *api.Ask) *int
	lo, hi int
}

// fields are the eleven numbers in the order of api.Ask.
func fields() []field {
	const clock = 1 << 40
	return []field{
		{"Who", func(a *api.Ask) *int { return &a.Who }, 1, 6},
		{"Nonce", func(a *api.Ask) *int { return &a.Nonce }, 1, 1 << 40},
		{"Op", func(a *api.Ask) *int { return &a.Op }, 1, 13},
		{"Tenant", func(a *api.Ask) *int { return &a.Tenant }, 0, clock},
		{"Key", func(a *api.Ask) *int { return &a.Key }, 0, clock},
		{"Version", func(a *api.Ask) *int { return &a.Version }, 0, clock},
		{"Set", func(a *api.Ask) *int { return &a.Set }, 0, clock},
		{"Grant", func(a *api.Ask) *int { return &a.Grant }, 0, clock},
		{"To", func(a *api.Ask) *int { return &a.To }, 0, clock},
		{"Ops", func(a *api.Ask) *int { return &a.Ops }, 0, clock},
		{"Until", func(a *api.Ask) *int { return &a.Until }, 0, clock},
	}
}

// part is Name, Bytes or Token, with how many bytes it has at most.
type part struct {
	name string
	most int
	set  func(a *api.Ask, b []byte)
	of   func(a api.Ask) []byte
}

func parts() []part {
	return []part{
		{"Name", 300, func(a *api.Ask, b []byte) { a.Name = string(b) }, func(a api.Ask) []byte { return []byte(a.Name) }},
		{"Bytes", 2000, func(a *api.Ask, b []byte) { a.Bytes = b }, func(a api.Ask) []byte { return a.Bytes }},
		{"Token", 100, func(a *api.Ask, b []byte) { a.Token = b }, func(a api.Ask) []byte { return a.Token }},
	}
}

func with(a api.Ask, change func(a *api.Ask)) api.Ask {
	change(&a)
	return a
}

func (x field) put(a api.Ask, n int) api.Ask {
	*x.of(&a) = n
	return a
}

func (x part) put(a api.Ask, b []byte) api.Ask {
	x.set(&a, b)
	return a
}

// good is a request of unlike numbers.
func good() api.Ask {
	return api.Ask{Who: 1, Nonce: 5, Op: 10, Tenant: 2, Key: 3, Version: 4, Set: 11, Grant: 6, To: 7, Ops: 8, Until: 9, Name: "name", Bytes: []byte("some bytes"), Token: []byte("token")}
}

// least is a request of the least of all.
func least() api.Ask { return api.Ask{Who: 1, Nonce: 1, Op: 1} }

// greatest is a request of the greatest of all.
func greatest() api.Ask {
	a := api.Ask{Name: string(mixed(300, 1)), Bytes: mixed(2000, 2), Token: mixed(100, 3)}
	for _, x := range fields() {
		a = x.put(a, x.hi)
	}
	return a
}

// slowMay goes by the chapter's words.
func slowMay(a api.Ask) bool {
	may := len(a.Name) <= 300 && len(a.Bytes) <= 2000 && len(a.Token) <= 100
	for _, x := range fields() {
		n := *x.of(&a)
		may = may && x.lo <= n && n <= x.hi
	}
	return may
}

// slowBody lays any request, be it one that may be or not.
func slowBody(a api.Ask) []byte {
	var laid []byte
	for _, x := range fields() {
		laid = binary.BigEndian.AppendUint64(laid, uint64(*x.of(&a)))
	}
	for _, x := range parts() {
		laid = binary.BigEndian.AppendUint64(laid, uint64(len(x.of(a))))
		laid = append(laid, x.of(a)...)
	}
	return laid
}

// checkMay holds May, Body and Signed against what is to be told of a. Behind ErrArg no key is asked for.
func checkMay(t *testing.T, name string, a api.Ask, may bool) {
	t.Helper()
	if May(a) != may {
		t.Errorf("P15.1: May of %s is not %v", name, may)
	}
	b, e := Body(a)
	signed, x := Signed(a, nil, nil)
	if may && (e != nil || !bytes.Equal(b, slowBody(a)) || len(signed) != 0 || !is(x, api.ErrSize)) {
		t.Errorf("P15.1: %s: Body %v, %v, Signed %v", name, b, e, x)
	}
	if !may && (len(b) != 0 || !is(e, api.ErrArg) || len(signed) != 0 || !is(x, api.ErrArg)) {
		t.Errorf("P15.1: %s: Body %v, Signed %v, not ErrArg", name, e, x)
	}
}

// numbersAbout are the numbers at which a field is tried.
func (x field) numbersAbout() []int {
	return []int{x.lo, x.lo + 1, (x.lo + x.hi) / 2, x.hi - 1, x.hi, x.lo - 1, x.hi + 1, x.hi + 2, -1, -2, -x.hi, 2*x.hi + 1, 1<<32 + x.lo, 1<<41 + x.lo, math.MinInt + x.lo, math.MinInt, math.MinInt + 1, math.MaxInt - 1, math.MaxInt}
}

func TestNumbersAtTheirBounds(t *testing.T) {
	for _, base := range []api.Ask{good(), least(), greatest()} {
		for _, x := range fields() {
			for _, n := range x.numbersAbout() {
				checkMay(t, x.name, x.put(base, n), x.lo <= n && n <= x.hi)
			}
		}
	}
}

// No bound of a request is another than what api says.
func TestBoundsOfTheDocument(t *testing.T) {
	for i, want := range [][2]int{{1, api.MaxPeople}, {1, api.MaxNonce}, {api.OpTenant, api.OpRevoke}, {0, api.MaxClock}} {
		if x := fields()[i]; x.lo != want[0] || x.hi != want[1] {
			t.Errorf("%s goes from %d to %d, not %v", x.name, x.lo, x.hi, want)
		}
	}
	if parts()[0].most != api.MaxNote {
		t.Error("Name has not MaxNote bytes at most")
	}
}

// The clock's request is the service's own: nobody asks it.
func TestEachOp(t *testing.T) {
	for op := -3; op <= 20; op++ {
		checkMay(t, "an op", with(good(), func(a *api.Ask) { a.Op = op }), op >= api.OpTenant && op <= api.OpRevoke)
	}
	checkMay(t, "OpTick", with(least(), func(a *api.Ask) { a.Op = api.OpTick }), false)
}

func TestPartsAtTheirBounds(t *testing.T) {
	for _, base := range []api.Ask{good(), least(), greatest()} {
		for _, x := range parts() {
			checkMay(t, x.name+" of nil", x.put(base, nil), true)
			checkMay(t, x.name+" of none", x.put(base, []byte{}), true)
			for _, n := range []int{0, 1, 7, 8, 255, 256, x.most - 1, x.most, x.most + 1, x.most + 2, x.most + 256, 2 * x.most, 70000} {
				checkMay(t, x.name, x.put(base, mixed(n, 9)), n <= x.most)
				checkMay(t, x.name+" of zeros", x.put(base, make([]byte, n)), n <= x.most)
			}
		}
	}
}

// Bytes are counted, not letters; and a name need not be of letters.
func TestNamesOfAnyBytes(t *testing.T) {
	for name, may := range map[string]bool{
		"\x00": true, "\xff\xfe": true, "\xc3\x28": true, "\xed\xa0\x80": true, "\ufffd": true, "a\nb\tc": true, "é日本": true,
		strings.Repeat("\xff", 300): true, strings.Repeat("\xff", 301): false, strings.Repeat("\x00", 300): true,
		strings.Repeat("é", 150): true, strings.Repeat("é", 150) + "a": false, strings.Repeat("é", 151): false, strings.Repeat("é", 300): false,
		strings.Repeat("日", 100): true, strings.Repeat("日", 101): false,
	} {
		checkMay(t, "a name", with(good(), func(a *api.Ask) { a.Name = name }), may)
	}
}

// All that is out of its bounds is told, whatever else is: one thing right makes no other right.
func TestSeveralOutOfTheirBounds(t *testing.T) {
	all := api.Ask{Name: strings.Repeat("n", 301), Bytes: make([]byte, 2001), Token: make([]byte, 101)}
	for _, x := range fields() {
		all = x.put(all, x.hi+1)
	}
	checkMay(t, "all", all, false)
	checkMay(t, "zeros", api.Ask{}, false)
	for _, x := range fields() {
		checkMay(t, "all but "+x.name, x.put(all, x.lo), false)
	}
	for _, x := range parts() {
		checkMay(t, "all but "+x.name, x.put(all, nil), false)
	}
}

func TestBodyByHand(t *testing.T) {
	a := api.Ask{Who: 2, Nonce: 258, Op: 3, Tenant: 4, Key: 5, Version: 6, Set: 7, Grant: 8, To: 9, Ops: 65536, Until: 1 << 40, Name: "na\xff", Bytes: []byte{0, 254}, Token: []byte{9}}
	want := []byte{
		0, 0, 0, 0, 0, 0, 0, 2,
		0, 0, 0, 0, 0, 0, 1, 2,
		0, 0, 0, 0, 0, 0, 0, 3,
		0, 0, 0, 0, 0, 0, 0, 4,
		0, 0, 0, 0, 0, 0, 0, 5,
		0, 0, 0, 0, 0, 0, 0, 6,
		0, 0, 0, 0, 0, 0, 0, 7,
		0, 0, 0, 0, 0, 0, 0, 8,
		0, 0, 0, 0, 0, 0, 0, 9,
		0, 0, 0, 0, 0, 1, 0, 0,
		0, 0, 1, 0, 0, 0, 0, 0,
		0, 0, 0, 0, 0, 0, 0, 3, 'n', 'a', 255,
		0, 0, 0, 0, 0, 0, 0, 2, 0, 254,
		0, 0, 0, 0, 0, 0, 0, 1, 9,
	}
	if got, e := Body(a); e != nil || !bytes.Equal(got, want) {
		t.Errorf("P15.1: Body is %v, %v, not %v", got, e, want)
	}
	want = make([]byte, 14*8)
	want[7], want[15], want[23] = 1, 1, 1
	for _, a := range []api.Ask{least(), with(least(), func(a *api.Ask) { a.Bytes, a.Token = []byte{}, []byte{} })} {
		if got, e := Body(a); e != nil || !bytes.Equal(got, want) {
			t.Errorf("P15.1: Body of the least request is %v, %v", got, e)
		}
	}
	if got, e := Body(greatest()); e != nil || len(got) != 14*8+300+2000+100 || !bytes.Equal(got, slowBody(greatest())) {
		t.Errorf("P15.1: Body of the greatest request has %d bytes, %v", len(got), e)
	}
}

// unlike are requests of which no two are the same.
func unlike() []api.Ask {
	found := []api.Ask{good(), least(), greatest()}
	for i, x := range fields() {
		found = append(found, x.put(greatest(), x.hi-1), x.put(least(), x.lo+1))
		for _, y := range fields()[:i] {
			turned := good()
			p, q := x.of(&turned), y.of(&turned)
			*p, *q = *q, *p
			if slowMay(turned) {
				found = append(found, turned)
			}
		}
	}
	for _, three := range [][3]string{
		{"ab", "c", "d"}, {"a", "bc", "d"}, {"a", "b", "cd"}, {"abc", "", "d"}, {"abc", "d", ""}, {"", "abc", "d"}, {"abcd", "", ""}, {"", "abcd", ""}, {"", "", "abcd"},
		{"ab", "d", "c"}, {"c", "ab", "d"}, {"c", "d", "ab"}, {"\x00", "", ""}, {"", "\x00", ""}, {"", "", "\x00"}, {"\x00\x00", "", ""}, {"\x00", "\x00", ""},
	} {
		found = append(found, with(good(), func(a *api.Ask) { a.Name, a.Bytes, a.Token = three[0], []byte(three[1]), []byte(three[2]) }))
	}
	for _, x := range parts() {
		for _, y := range []string{string(x.of(good())) + "\x00", "\x00" + string(x.of(good())), string(x.of(good()))[1:]} {
			found = append(found, x.put(good(), []byte(y)))
		}
		odd := bytes.Clone(x.of(greatest()))
		odd[len(odd)-1] ^= 128
		found = append(found, x.put(greatest(), odd), x.put(greatest(), odd[:len(odd)-1]))
	}
	return found
}

func TestUnlikeBodies(t *testing.T) {
	all, seen := unlike(), map[string]int{}
	if len(all) < 90 {
		t.Errorf("only %d requests are tried", len(all))
	}
	for i, a := range all {
		b, e := Body(a)
		if e != nil || !bytes.Equal(b, slowBody(a)) {
			t.Errorf("P15.1: Body of request %d: %v", i, e)
		}
		if j, ok := seen[string(b)]; ok {
			t.Errorf("P15.1: requests %d and %d have one body", j, i)
		}
		seen[string(b)] = i
	}
}

func TestSameOfUnlikeRequests(t *testing.T) {
	all := unlike()
	for i, a := range all {
		for j, b := range all {
			if Same(a, b) != (i == j) {
				t.Errorf("P15.1: Same of requests %d and %d is %v", i, j, i != j)
			}
		}
	}
}

// copied is a request with bytes of its own.
func copied(a api.Ask) api.Ask {
	a.Name, a.Bytes, a.Token = strings.Clone(a.Name), bytes.Clone(a.Bytes), bytes.Clone(a.Token)
	return a
}

func TestSameOfCopies(t *testing.T) {
	for i, a := range unlike() {
		if !Same(a, copied(a)) || !Same(copied(a), a) {
			t.Errorf("P15.1: Same of request %d and its copy is false", i)
		}
	}
}

// Same asks each field, whether the requests may be or not.
func TestSameOfEachField(t *testing.T) {
	for _, base := range []api.Ask{good(), {}, greatest(), with(good(), func(a *api.Ask) { a.Who, a.Op = -1, 99 }), with(good(), func(a *api.Ask) { a.Token = make([]byte, 101) })} {
		for _, x := range fields() {
			for _, away := range []int{1, -1, 8, 1 << 32, 1 << 41, math.MinInt} {
				other := x.put(copied(base), *x.of(&base)+away)
				if Same(base, other) || Same(other, base) || !Same(other, copied(other)) {
					t.Errorf("P15.1: Same of requests whose %s is another one", x.name)
				}
			}
		}
		for _, x := range parts() {
			own := x.of(base)
			others := [][]byte{slices.Concat(own, []byte{0}), slices.Concat([]byte{0}, own), mixed(3000, 1)}
			if len(own) > 0 {
				odd := bytes.Clone(own)
				odd[len(own)/2] ^= 1
				others = append(others, odd, own[1:], own[:len(own)-1], nil)
			}
			for _, b := range others {
				other := x.put(copied(base), b)
				if Same(base, other) || Same(other, base) || !Same(other, copied(other)) {
					t.Errorf("P15.1: Same of requests whose %s is another one", x.name)
				}
			}
		}
	}
}

func TestSameOfNilAndEmpty(t *testing.T) {
	for _, base := range []api.Ask{{}, good(), {Who: -7}} {
		none := with(base, func(a *api.Ask) { a.Bytes, a.Token = nil, nil })
		for _, other := range []api.Ask{
			with(none, func(a *api.Ask) { a.Bytes = []byte{} }),
			with(none, func(a *api.Ask) { a.Token = []byte{} }),
			with(none, func(a *api.Ask) { a.Bytes, a.Token = []byte{}, []byte{} }),
			with(none, func(a *api.Ask) { a.Bytes, a.Token = mixed(9, 1)[:0], mixed(9, 2)[4:4] }),
		} {
			if !Same(none, other) || !Same(other, none) {
				t.Error("P15.1: Same of nil and of none is false")
			}
		}
	}
}
