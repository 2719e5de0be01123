package wave

import (
	"math"
	"math/rand"
	"slices"
	"strconv"
	"sync"
	"testing"
)

const (
	prime = 8380417
	count = 256
)

// filled is a poly of one number.
func filled(x int) []int { return slices.Repeat([]int{x}, count) }

// at is a poly of rest, but for one number.
func at(place int, x int, rest int) []int {
	f := filled(rest)
	f[place] = x
	return f
}

// drawn is a poly, the same for the same seed.
func drawn(seed int) []int {
	from := rand.New(rand.NewSource(int64(seed)))
	f := make([]int, count)
	for i := range f {
		f[i] = from.Intn(prime)
	}
	return f
}

// polys are ordinary ones, and those with 0 and q - 1 at the first place, the last, and all.
func polys() [][]int {
	found := [][]int{filled(0), filled(1), filled(prime - 1), filled(prime / 2), filled(prime/2 + 1)}
	for _, place := range []int{0, 1, 2, 127, 128, 254, 255} {
		found = append(found, at(place, prime-1, 0), at(place, 0, prime-1), at(place, 1, 0))
	}
	for seed := range 20 {
		found = append(found, drawn(seed))
	}
	return found
}

// wrong are lists that are no polys, by what is wrong.
func wrong() map[string][]int {
	found := map[string][]int{
		"nil":                            nil,
		"an empty list":                  {},
		"1 number":                       {1},
		"255 numbers":                    filled(7)[:255],
		"257 numbers":                    append(filled(7), 7),
		"512 numbers":                    append(filled(7), filled(7)...),
		"256 below 0":                    filled(-1),
		"256 of q":                       filled(prime),
		"0 numbers, with room for 256":   filled(7)[:0],
		"255 numbers, the last one of q": append(filled(7)[:254], prime),
	}
	for _, place := range []int{0, 1, 2, 100, 128, 254, 255} {
		for _, x := range []int{-1, -prime, math.MinInt, prime, prime + 1, 2 * prime, 1 << 23, 1 << 32, 1<<32 + 7, math.MaxInt} {
			found[strconv.Itoa(x)+" at "+strconv.Itoa(place)] = at(place, x, 7)
		}
	}
	return found
}

// slowMod is x modulo q; x is not at the ends of the whole numbers.
func slowMod(x int) int { return (x%prime + prime) % prime }

func slowPower(n int) int {
	power := 1
	for range n {
		power = power * 1753 % prime
	}
	return power
}

// turned are the 8 lowest bits of i, turned round.
func turned(i int) int {
	r := 0
	for k := range 8 {
		r |= i >> k & 1 << (7 - k)
	}
	return r
}

// slowRoots are the roots of 0 to 255 by the chapter's words.
func slowRoots() []int {
	found := make([]int, count)
	for i := range found {
		found[i] = slowPower(turned(i))
	}
	return found
}

// slowOver goes by the chapter's words.
func slowOver(given []int, root []int) []int {
	f := slices.Clone(given)
	m := 0
	for _, length := range []int{128, 64, 32, 16, 8, 4, 2, 1} {
		for start := 0; start < count; start += 2 * length {
			m++
			z := root[m]
			for j := start; j <= start+length-1; j++ {
				t := z * f[j+length]
				f[j+length] = slowMod(f[j] - t)
				f[j] = slowMod(f[j] + t)
			}
		}
	}
	return f
}

// slowBack goes by the chapter's words.
func slowBack(given []int, root []int) []int {
	f := slices.Clone(given)
	m := 256
	for _, length := range []int{1, 2, 4, 8, 16, 32, 64, 128} {
		for start := 0; start < count; start += 2 * length {
			m--
			z := -root[m]
			for j := start; j <= start+length-1; j++ {
				t := f[j]
				f[j] = slowMod(t + f[j+length])
				f[j+length] = slowMod(z * (t - f[j+length]))
			}
		}
	}
	for j := range f {
		f[j] = slowMod(f[j] * 8347681)
	}
	return f
}

// slowTimes is f times g, number by number.
func slowTimes(f []int, g []int) []int {
	out := make([]int, count)
	for i := range out {
		out[i] = slowMod(f[i] * g[i])
	}
	return out
}

// product is f times g by hand, where the 256-th power of the unknown is -1.
func product(f []int, g []int) []int {
	long := make([]int, 2*count)
	for i, a := range f {
		for k, b := range g {
			long[i+k] += a * b // at most 256 of them, each below 2^46
		}
	}
	out := make([]int, count)
	for i := range out {
		out[i] = slowMod(long[i] - long[i+count])
	}
	return out
}

// plus is f + g, by hand.
func plus(f []int, g []int) []int {
	out := make([]int, count)
	for i := range out {
		out[i] = slowMod(f[i] + g[i])
	}
	return out
}

// slowNorm goes by the chapter's words, of polys.
func slowNorm(fs ...[]int) int {
	furthest := 0
	for _, f := range fs {
		for _, x := range f {
			if x > prime/2 {
				x = prime - x
			}
			if x > furthest {
				furthest = x
			}
		}
	}
	return furthest
}

func TestExample(t *testing.T) {
	if got := Over(at(0, 1, 0)); !slices.Equal(got, filled(1)) {
		t.Errorf("P10.1: Over(1, 0, ..) is %v", got)
	}
}

func TestMay(t *testing.T) {
	for i, f := range polys() {
		if !May(f) {
			t.Errorf("P10.1: May of the %d-th poly is false", i)
		}
	}
	for what, f := range wrong() {
		if May(f) {
			t.Errorf("P10.1: May of %s is true", what)
		}
	}
	if !May(append(filled(7), prime)[:count]) {
		t.Error("P10.1: May is false, if what is no number stands behind a poly, in its spare room")
	}
}

func TestMayAtEachPlace(t *testing.T) {
	for i := range count {
		if !May(at(i, prime-1, 0)) || !May(at(i, 0, prime-1)) {
			t.Errorf("P10.1: May is false of a poly with q - 1, or 0, at place %d", i)
		}
		if May(at(i, prime, 0)) || May(at(i, -1, 0)) {
			t.Errorf("P10.1: May is true with q, or -1, at place %d", i)
		}
	}
}

func TestMayOfManyNumbers(t *testing.T) {
	for _, about := range []int{0, 8191, 1 << 16, prime / 2, prime, 1 << 23} {
		for x := about - 300; x <= about+300; x++ {
			if got, want := May(at(x&255, x, 7)), x >= 0 && x < prime; got != want {
				t.Errorf("P10.1: May is %v with the number %d", got, x)
			}
		}
	}
}

func TestAddAndSub(t *testing.T) {
	for i, f := range polys() {
		for k, g := range polys() {
			sum, rest := Add(f, g), Sub(f, g)
			if len(sum) != count || len(rest) != count {
				t.Fatalf("P10.1: Add, Sub of the polys %d and %d have %d and %d numbers", i, k, len(sum), len(rest))
			}
			for j := range count {
				if sum[j] != slowMod(f[j]+g[j]) || rest[j] != slowMod(f[j]-g[j]) {
					t.Fatalf("P10.1: Add, Sub of the polys %d and %d have %d and %d at place %d, of %d and %d", i, k, sum[j], rest[j], j, f[j], g[j])
				}
			}
		}
	}
}

func TestAddSubAndTimesOfEdges(t *testing.T) {
	edges := []int{0, 1, 2, 1753, prime/2 - 1, prime / 2, prime/2 + 1, prime/2 + 2, prime - 2, prime - 1}
	for _, a := range edges {
		for _, b := range edges {
			for _, place := range []int{0, 1, 127, 128, 254, 255} {
				f, g := at(place, a, 3), at(place, b, 5)
				sum, rest, times := at(place, (a+b)%prime, 8), at(place, (a-b+prime)%prime, prime-2), at(place, a*b%prime, 15)
				if !slices.Equal(Add(f, g), sum) || !slices.Equal(Sub(f, g), rest) || !slices.Equal(Times(f, g), times) {
					t.Fatalf("P10.1: Add, Sub or Times of %d and %d at place %d", a, b, place)
				}
			}
		}
	}
}

func TestRootByTheWords(t *testing.T) {
	root := slowRoots()
	for i := range count {
		for _, by := range []int{0, 256, 512, -256, -512, 1 << 20, -1 << 20, 1 << 32, -1 << 32, 1 << 62, math.MinInt, math.MaxInt - 255} {
			if got, want := Root(i+by), root[i]; got != want {
				t.Errorf("P10.1: Root(%d) is %d, not %d", i+by, got, want)
			}
		}
	}
}

func TestRootAtTheEdges(t *testing.T) {
	// The first eight are those that FIPS 204 lists; Root(255) is 1753 to the 255: its product with 1753 is -1.
	for i, want := range []int{1, 4808194, 3765607, 3761513, 5178923, 5496691, 5234739, 5178987} {
		if got := Root(i); got != want {
			t.Errorf("P10.1: Root(%d) is %d, not %d", i, got, want)
		}
	}
	for _, x := range [][2]int{{128, 1753}, {64, 1753 * 1753}, {256, 1}, {257, 4808194}, {384, 1753}, {-256, 1}, {-128, 1753}, {-255, 4808194}, {math.MinInt, 1}, {math.MinInt + 128, 1753}} {
		if got := Root(x[0]); got != x[1] {
			t.Errorf("P10.1: Root(%d) is %d, not %d", x[0], got, x[1])
		}
	}
	for _, i := range []int{255, 511, -1, -257, math.MaxInt} {
		if got := Root(i); got*1753%prime != prime-1 {
			t.Errorf("P10.1: Root(%d) is %d", i, got)
		}
	}
	for _, i := range []int{127, 383, -129, math.MaxInt - 128} {
		if got := Root(i); got*1753%prime*1753%prime != prime-1 {
			t.Errorf("P10.1: Root(%d) is %d", i, got)
		}
	}
}

func TestOverAndBackByTheWords(t *testing.T) {
	root := slowRoots()
	for i, f := range polys() {
		if got := Over(f); !slices.Equal(got, slowOver(f, root)) {
			t.Errorf("P10.1: Over of the %d-th poly is %v", i, got)
		}
		if got := Back(f); !slices.Equal(got, slowBack(f, root)) {
			t.Errorf("P10.1: Back of the %d-th poly is %v", i, got)
		}
	}
	for seed := range 300 {
		if f := drawn(2000 + seed); !slices.Equal(Over(f), slowOver(f, root)) || !slices.Equal(Back(f), slowBack(f, root)) {
			t.Fatalf("P10.1: Over or Back of the %d-th drawn poly", seed)
		}
	}
}

func TestOverAndBackOfOneNumber(t *testing.T) {
	root := slowRoots()
	for place := range count {
		for _, x := range []int{1, prime / 2, prime - 1} {
			for _, rest := range []int{0, prime - 1} {
				f := at(place, x, rest)
				if !slices.Equal(Over(f), slowOver(f, root)) || !slices.Equal(Back(f), slowBack(f, root)) {
					t.Fatalf("P10.1: Over or Back of %d at place %d, %d elsewhere", x, place, rest)
				}
			}
		}
	}
}

// Number i of Over(f) is what f is where the unknown is 1753 to the (2r + 1), r the 8 bits of i turned round.
func TestOverIsWhatIsLeft(t *testing.T) {
	for k, f := range polys() {
		over := Over(f)
		for i := range count {
			z, want := slowPower(2*turned(i)+1), 0
			for j := count - 1; j >= 0; j-- {
				want = (want*z + f[j]) % prime
			}
			if over[i] != want {
				t.Fatalf("P10.1: Over of the %d-th poly has %d at place %d, not %d", k, over[i], i, want)
			}
		}
	}
}

func TestThereAndBack(t *testing.T) {
	for i, f := range polys() {
		if !slices.Equal(Back(Over(f)), f) {
			t.Errorf("P10.2: Back(Over(f)) isn't f, the %d-th", i)
		}
		if !slices.Equal(Over(Back(f)), f) {
			t.Errorf("P10.2: Over(Back(f)) isn't f, the %d-th", i)
		}
	}
	for seed := range 300 {
		if f := drawn(1000 + seed); !slices.Equal(Back(Over(f)), f) || !slices.Equal(Over(Back(f)), f) {
			t.Fatalf("P10.2: there and back, of the %d-th drawn poly", seed)
		}
	}
}

func TestTimesByTheWords(t *testing.T) {
	for i, f := range polys() {
		for k, g := range polys() {
			if got, want := Times(f, g), slowTimes(f, g); !slices.Equal(got, want) {
				t.Fatalf("P10.1: Times of the polys %d and %d is %v, not %v", i, k, got, want)
			}
		}
	}
}

func TestTimesNumberByNumber(t *testing.T) {
	for place := range count {
		for _, other := range []int{place, place ^ 1, (place + 2) % count, count - 1 - place} {
			want := filled(0)
			if place == other {
				want = at(place, 2, 0)
			}
			if got := Times(at(place, prime-1, 0), at(other, prime-2, 0)); !slices.Equal(got, want) {
				t.Fatalf("P10.1: Times of -1 at %d, -2 at %d is %v", place, other, got)
			}
		}
	}
}

func TestProducts(t *testing.T) {
	for i, f := range polys() {
		for k, g := range polys() {
			if got, want := Back(Times(Over(f), Over(g))), product(f, g); !slices.Equal(got, want) {
				t.Fatalf("P10.2: the product of the polys %d and %d is %v, not %v", i, k, got, want)
			}
		}
	}
}

func TestTheUnknownsPowers(t *testing.T) {
	for i := range count {
		for _, k := range []int{0, 1, 128, 255} {
			want := at((i+k)%count, 1, 0)
			if i+k >= count {
				want = at((i+k)%count, prime-1, 0)
			}
			if got := Back(Times(Over(at(i, 1, 0)), Over(at(k, 1, 0)))); !slices.Equal(got, want) {
				t.Fatalf("P10.2: the powers %d and %d of the unknown make %v", i, k, got)
			}
		}
	}
}

func TestDot(t *testing.T) {
	for _, many := range []int{1, 2, 3, 4, 7, 40} {
		var fs, gs [][]int
		want := filled(0)
		for i := range many {
			fs, gs = append(fs, drawn(i)), append(gs, drawn(500+i*many))
			want = plus(want, slowTimes(fs[i], gs[i]))
		}
		if !slices.Equal(Dot(fs, gs), want) {
			t.Errorf("P10.1: Dot of %d polys is %v", many, Dot(fs, gs))
		}
	}
}

func TestDotOfTheEdges(t *testing.T) {
	all := polys()
	want := filled(0)
	for _, f := range all {
		want = plus(want, slowTimes(f, f))
	}
	if !slices.Equal(Dot(all, all), want) {
		t.Error("P10.1: Dot of polys with themselves")
	}
	for _, many := range []int{1, 2, 255, 256, 257, 3000} {
		tops := slices.Repeat([][]int{filled(prime - 1)}, many)
		if got := Dot(tops, tops); !slices.Equal(got, filled(many)) {
			t.Errorf("P10.1: Dot of %d polys of q - 1 with themselves is %v", many, got)
		}
	}
}

// So many products of the greatest numbers, added up as they are, would wrap round.
func TestDotDoesNotWrapRound(t *testing.T) {
	const many = 140000 // times (q - 1)^2 is above 2^63
	tops := slices.Repeat([][]int{filled(prime - 1)}, many)
	if got := Dot(tops, tops); !slices.Equal(got, filled(many)) {
		t.Errorf("P10.1: Dot of %d polys of q - 1 with themselves begins with %v", many, got[:min(3, len(got))])
	}
}

func TestDotOfListsThatAreNone(t *testing.T) {
	f := drawn(1)
	cases := map[string][2][][]int{
		"nil and nil":                        {nil, nil},
		"empty and empty":                    {{}, {}},
		"nil and empty":                      {nil, {}},
		"empty and nil":                      {{}, nil},
		"none and one":                       {nil, {f}},
		"one and none":                       {{f}, nil},
		"empty and one":                      {{}, {f}},
		"one and empty":                      {{f}, {}},
		"one and two":                        {{f}, {f, f}},
		"two and one":                        {{f, f}, {f}},
		"three and two":                      {{f, f, f}, {f, f}},
		"two and three":                      {{f, f}, {f, f, f}},
		"one, and one and a nil":             {{f}, {f, nil}},
		"one and a nil, and one":             {{f, nil}, {f}},
		"one with more in its room, and two": {[][]int{f, f}[:1], {f, f}},
	}
	for what, lists := range cases {
		if got := Dot(lists[0], lists[1]); len(got) != 0 {
			t.Errorf("P10.1: Dot of %s tells %d numbers", what, len(got))
		}
	}
}

func TestDotOfWhatIsNoPoly(t *testing.T) {
	for what, odd := range wrong() {
		for many := 1; many <= 3; many++ {
			for place := range many {
				good, bad := [][]int{drawn(1), drawn(2), drawn(3)}[:many], [][]int{drawn(4), drawn(5), drawn(6)}[:many]
				bad[place] = odd
				for _, got := range [][]int{Dot(good, bad), Dot(bad, good), Dot(bad, bad)} {
					if len(got) != 0 {
						t.Errorf("P10.1: Dot of %d with %s as number %d tells %d numbers", many, what, place, len(got))
					}
				}
			}
		}
	}
}

func TestWhatIsNoPoly(t *testing.T) {
	f := drawn(1)
	pairs := map[string]func([]int, []int) []int{"Add": Add, "Sub": Sub, "Times": Times}
	singles := map[string]func([]int) []int{"Over": Over, "Back": Back}
	for what, odd := range wrong() {
		for name, call := range pairs {
			if len(call(odd, f)) != 0 || len(call(f, odd)) != 0 || len(call(odd, odd)) != 0 {
				t.Errorf("P10.1: %s with %s tells numbers", name, what)
			}
		}
		for name, call := range singles {
			if len(call(odd)) != 0 {
				t.Errorf("P10.1: %s of %s tells numbers", name, what)
			}
		}
	}
}

func TestNormOfNone(t *testing.T) {
	if Norm() != 0 || Norm([][]int{}...) != 0 || Norm([][]int(nil)...) != 0 {
		t.Error("P10.1: Norm of no poly isn't 0")
	}
	if got := Norm(filled(0)); got != 0 {
		t.Errorf("P10.1: Norm of zeros is %d", got)
	}
	if got := Norm(filled(0), filled(0), filled(0)); got != 0 {
		t.Errorf("P10.1: Norm of three polys of zeros is %d", got)
	}
}

func TestNormOfOne(t *testing.T) {
	for i, f := range polys() {
		if got, want := Norm(f), slowNorm(f); got != want {
			t.Errorf("P10.1: Norm of the %d-th poly is %d, not %d", i, got, want)
		}
	}
	for _, x := range [][2]int{{0, 0}, {1, 1}, {2, 2}, {4190206, 4190206}, {4190207, 4190207}, {4190208, 4190208}, {4190209, 4190208}, {4190210, 4190207}, {4190211, 4190206}, {prime - 2, 2}, {prime - 1, 1}} {
		for place := range count {
			if got := Norm(at(place, x[0], 0)); got != x[1] {
				t.Fatalf("P10.1: Norm with %d at place %d is %d, not %d", x[0], place, got, x[1])
			}
		}
		if got := Norm(filled(x[0])); got != x[1] {
			t.Errorf("P10.1: Norm of numbers %d is %d, not %d", x[0], got, x[1])
		}
	}
}

func TestNormIsTheGreatestOfAll(t *testing.T) {
	for many := 1; many <= 6; many++ {
		for greatest := range many {
			for _, place := range []int{0, 100, 255} {
				for _, x := range []int{12, prime - 12, prime / 2, prime/2 + 1} {
					fs := [][]int{}
					for i := range many {
						fs = append(fs, at(i*31, prime-11, 11-i))
					}
					fs[greatest] = at(place, x, prime-5)
					if got, want := Norm(fs...), min(x, prime-x); got != want {
						t.Fatalf("P10.1: Norm of %d polys, with %d at place %d of number %d, is %d, not %d", many, x, place, greatest, got, want)
					}
				}
			}
		}
	}
	all := polys()
	for i := range all {
		if got, want := Norm(all[i:]...), slowNorm(all[i:]...); got != want {
			t.Errorf("P10.1: Norm of the polys from the %d-th on is %d, not %d", i, got, want)
		}
	}
}

func TestNormOfWhatIsNoPoly(t *testing.T) {
	for what, odd := range wrong() {
		for many := 1; many <= 4; many++ {
			for place := range many {
				fs := [][]int{filled(0), drawn(1), filled(prime / 2), drawn(2)}[:many]
				fs[place] = odd
				if got := Norm(fs...); got != -1 {
					t.Errorf("P10.1: Norm of %d with %s as number %d is %d, not -1", many, what, place, got)
				}
			}
		}
		if got := Norm(odd, odd); got != -1 {
			t.Errorf("P10.1: Norm of %s twice is %d, not -1", what, got)
		}
	}
}

// roomy is f with spare room behind it, which holds a mark.
func roomy(f []int) []int {
	room := append(slices.Clone(f), slices.Repeat([]int{-77}, 64)...)
	return room[:len(f)]
}

// whole is f with its spare room.
func whole(f []int) []int { return slices.Clone(f[:cap(f)]) }

// calls are all that answer a list, each of two polys, and those that answer none, as a list of what they answer.
func calls() map[string]func(f []int, g []int) []int {
	return map[string]func(f []int, g []int) []int{
		"Add":   Add,
		"Sub":   Sub,
		"Times": Times,
		"Over":  func(f []int, _ []int) []int { return Over(f) },
		"Back":  func(f []int, _ []int) []int { return Back(f) },
		"Dot":   func(f []int, g []int) []int { return Dot([][]int{f, g, f}, [][]int{g, f, g}) },
		"Dot of one": func(f []int, g []int) []int {
			return Dot([][]int{f}, [][]int{g})
		},
		"May": func(f []int, g []int) []int {
			if May(f) && May(g) {
				return []int{1}
			}
			return []int{0}
		},
		"Norm": func(f []int, g []int) []int { return []int{Norm(f), Norm(f, g), Norm(g, f, g)} },
		"Root": func(f []int, _ []int) []int {
			if len(f) == 0 {
				return nil
			}
			return []int{Root(f[0])}
		},
	}
}

// What is handed in is told by what it holds, with its spare room, ahead of the call and behind it; then all of it, and all of the answer, is written over.
func TestNoCallChangesOrKeepsWhatItWasGiven(t *testing.T) {
	for name, call := range calls() {
		for i, f := range polys() {
			f, g := roomy(f), roomy(drawn(900+i))
			hadF, hadG := whole(f), whole(g)
			answer := call(f, g)
			want := slices.Clone(answer)
			if again := call(f, g); !slices.Equal(again, want) {
				t.Fatalf("R5: %s told another answer the second time", name)
			} else {
				clear(again[:cap(again)])
			}
			if !slices.Equal(answer, want) {
				t.Fatalf("R4: two answers of %s share memory", name)
			}
			if !slices.Equal(whole(f), hadF) || !slices.Equal(whole(g), hadG) {
				t.Fatalf("R4: %s changed what it was given, or shares memory with it", name)
			}
			clear(f[:cap(f)])
			clear(g[:cap(g)])
			if !slices.Equal(answer, want) {
				t.Fatalf("R4: the answer of %s shares memory with what was given", name)
			}
			if again := call(hadF[:count], hadG[:count]); !slices.Equal(again, want) {
				t.Fatalf("R5: %s told another answer, once its answers and lists were written over", name)
			}
		}
	}
}

func TestTheSameListAsBothArguments(t *testing.T) {
	for name, call := range calls() {
		f := roomy(drawn(3))
		had := whole(f)
		if got, want := call(f, f), call(drawn(3), drawn(3)); !slices.Equal(got, want) {
			t.Errorf("R4: %s of one list with itself is %v", name, got)
		}
		if !slices.Equal(whole(f), had) {
			t.Errorf("R4: %s of one list with itself changed it", name)
		}
	}
}

func TestWhatIsNoPolyIsNotChanged(t *testing.T) {
	for what, odd := range wrong() {
		for name, call := range calls() {
			odd, f := roomy(odd), roomy(drawn(2))
			hadOdd, hadF := whole(odd), whole(f)
			call(odd, f)
			call(f, odd)
			if !slices.Equal(whole(odd), hadOdd) || !slices.Equal(whole(f), hadF) {
				t.Errorf("R4: %s changed %s, or the poly beside it", name, what)
			}
		}
	}
}

func TestDotAndNormKeepTheirLists(t *testing.T) {
	fs := make([][]int, 2, 4)
	gs := make([][]int, 2, 4)
	for i := range 4 {
		fs[:4][i], gs[:4][i] = drawn(i), drawn(10+i)
	}
	Dot(fs, gs)
	Norm(fs...)
	Norm(gs...)
	for i := range 4 {
		if !slices.Equal(fs[:4][i], drawn(i)) || !slices.Equal(gs[:4][i], drawn(10+i)) {
			t.Errorf("R4: Dot or Norm changed number %d of a list, or of its spare room", i)
		}
	}
}

func TestManyAtOnce(t *testing.T) {
	f, g := drawn(1), drawn(2)
	for name, call := range calls() {
		want := call(f, g)
		var all sync.WaitGroup
		for range 8 {
			all.Go(func() {
				for range 20 {
					if !slices.Equal(call(f, g), want) {
						t.Errorf("R5: %s told another answer beside other calls", name)
					}
				}
			})
		}
		all.Wait()
	}
}

func BenchmarkRoot(b *testing.B) {
	i := 0
	for b.Loop() {
		Root(i)
		i++
	}
}

func BenchmarkOver(b *testing.B) {
	f := drawn(1)
	for b.Loop() {
		Over(f)
	}
}

func BenchmarkBack(b *testing.B) {
	f := drawn(1)
	for b.Loop() {
		Back(f)
	}
}

func BenchmarkTimes(b *testing.B) {
	f, g := drawn(1), drawn(2)
	for b.Loop() {
		Times(f, g)
	}
}

func BenchmarkNorm(b *testing.B) {
	f, g := drawn(1), drawn(2)
	for b.Loop() {
		Norm(f, g)
	}
}
