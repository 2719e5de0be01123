package poly

import (
	"math"
	"math/rand"
	"slices"
	"strconv"
	"sync"
	"testing"
)

const (
	prime = 3329
	count = 256
)

// filled is a poly of one number.
func filled(x int) []int { return slices.Repeat([]int{x}, count) }

// at is a poly of rest, but for one number.
func at(place int, x int, rest int) []int {
	f := filled(rest)
	f[place] = x
	return f
}

// drawn is a poly, the same for the same seed.
func drawn(seed int) []int {
	from := rand.New(rand.NewSource(int64(seed)))
	f := make([]int, count)
	for i := range f {
		f[i] = from.Intn(prime)
	}
	return f
}

// polys are ordinary ones, and those with 0 and q - 1 at the first place, the last, and all.
func polys() [][]int {
	found := [][]int{filled(0), filled(1), filled(prime - 1)}
	for _, place := range []int{0, 1, 2, 127, 128, 254, 255} {
		found = append(found, at(place, prime-1, 0), at(place, 0, prime-1), at(place, 1, 0))
	}
	for seed := range 20 {
		found = append(found, drawn(seed))
	}
	return found
}

// wrong are lists that are no polys, by what is wrong.
func wrong() map[string][]int {
	found := map[string][]int{
		"nil":                            nil,
		"an empty list":                  {},
		"1 number":                       {1},
		"255 numbers":                    filled(7)[:255],
		"257 numbers":                    append(filled(7), 7),
		"512 numbers":                    append(filled(7), filled(7)...),
		"256 below 0":                    filled(-1),
		"256 of q":                       filled(prime),
		"0 numbers, with room for 256":   filled(7)[:0],
		"255 numbers, the last one of q": append(filled(7)[:254], prime),
	}
	for _, place := range []int{0, 1, 2, 100, 128, 254, 255} {
		for _, x := range []int{-1, -prime, math.MinInt, prime, prime + 1, 2 * prime, 1 << 32, math.MaxInt} {
			found[strconv.Itoa(x)+" at "+strconv.Itoa(place)] = at(place, x, 7)
		}
	}
	return found
}

// slowMod is x modulo q; x is not far from 0.
func slowMod(x int) int { return (x%prime + prime) % prime }

func slowPower(n int) int {
	power := 1
	for range n {
		power = power * 17 % prime
	}
	return power
}

// turned are the 7 bits of i, turned round.
func turned(i int) int {
	r := 0
	for k := range 7 {
		r |= i >> k & 1 << (6 - k)
	}
	return r
}

// slowOver goes by the chapter's words.
func slowOver(given []int) []int {
	f := slices.Clone(given)
	i := 1
	for _, length := range []int{128, 64, 32, 16, 8, 4, 2} {
		for start := 0; start < count; start += 2 * length {
			z := slowPower(turned(i))
			i++
			for j := start; j <= start+length-1; j++ {
				t := z * f[j+length]
				f[j+length] = slowMod(f[j] - t)
				f[j] = slowMod(f[j] + t)
			}
		}
	}
	return f
}

// slowBack goes by the chapter's words.
func slowBack(given []int) []int {
	f := slices.Clone(given)
	i := 127
	for _, length := range []int{2, 4, 8, 16, 32, 64, 128} {
		for start := 0; start < count; start += 2 * length {
			z := slowPower(turned(i))
			i--
			for j := start; j <= start+length-1; j++ {
				t := f[j]
				f[j] = slowMod(t + f[j+length])
				f[j+length] = slowMod(z * (f[j+length] - t))
			}
		}
	}
	for j := range f {
		f[j] = slowMod(f[j] * 3303)
	}
	return f
}

// slowTimes goes by the chapter's words.
func slowTimes(f []int, g []int) []int {
	out := make([]int, count)
	for i := range 128 {
		z := slowPower(2*turned(i) + 1)
		out[2*i] = slowMod(f[2*i]*g[2*i] + z*slowMod(f[2*i+1]*g[2*i+1]))
		out[2*i+1] = slowMod(f[2*i]*g[2*i+1] + f[2*i+1]*g[2*i])
	}
	return out
}

// product is f times g by hand, where the 256-th power of the unknown is -1.
func product(f []int, g []int) []int {
	long := make([]int, 2*count)
	for i, a := range f {
		for k, b := range g {
			long[i+k] += a * b
		}
	}
	out := make([]int, count)
	for i := range out {
		out[i] = slowMod(long[i] - long[i+count])
	}
	return out
}

// plus is f + g, by hand.
func plus(f []int, g []int) []int {
	out := make([]int, count)
	for i := range out {
		out[i] = slowMod(f[i] + g[i])
	}
	return out
}

func TestExample(t *testing.T) {
	for i, x := range Over(at(0, 1, 0)) {
		if x != 1-i%2 {
			t.Errorf("P4.1: Over(1, 0, 0, ..) has %d at place %d", x, i)
		}
	}
}

func TestMay(t *testing.T) {
	for i, f := range polys() {
		if !May(f) {
			t.Errorf("P4.1: May of the %d-th poly is false", i)
		}
	}
	for what, f := range wrong() {
		if May(f) {
			t.Errorf("P4.1: May of %s is true", what)
		}
	}
	if !May(append(filled(7), prime)[:count]) {
		t.Error("P4.1: May is false, if what is no number stands behind a poly, in its spare room")
	}
}

func TestMayAtEachPlace(t *testing.T) {
	for i := range count {
		if !May(at(i, prime-1, 0)) || !May(at(i, 0, prime-1)) {
			t.Errorf("P4.1: May is false of a poly with q - 1, or 0, at place %d", i)
		}
		if May(at(i, prime, 0)) || May(at(i, -1, 0)) {
			t.Errorf("P4.1: May is true with q, or -1, at place %d", i)
		}
	}
}

func TestMayOfEachNumber(t *testing.T) {
	for x := -10; x < prime+10; x++ {
		if got, want := May(at(x&255, x, 7)), x >= 0 && x < prime; got != want {
			t.Errorf("P4.1: May is %v with the number %d", got, x)
		}
	}
}

func TestAddAndSub(t *testing.T) {
	for i, f := range polys() {
		for k, g := range polys() {
			sum, rest := Add(f, g), Sub(f, g)
			if len(sum) != count || len(rest) != count {
				t.Fatalf("P4.1: Add, Sub of the polys %d and %d have %d and %d numbers", i, k, len(sum), len(rest))
			}
			for j := range count {
				if sum[j] != slowMod(f[j]+g[j]) || rest[j] != slowMod(f[j]-g[j]) {
					t.Fatalf("P4.1: Add, Sub of the polys %d and %d have %d and %d at place %d, of %d and %d", i, k, sum[j], rest[j], j, f[j], g[j])
				}
			}
		}
	}
}

func TestAddAndSubOfEachNumber(t *testing.T) {
	for _, b := range []int{0, 1, 1664, 1665, prime - 2, prime - 1} {
		for a := range prime {
			f, g := at(a&255, a, 3), at(a&255, b, 5)
			sum, rest := Add(f, g), Sub(f, g)
			if sum[a&255] != (a+b)%prime || rest[a&255] != (a-b+prime)%prime {
				t.Fatalf("P4.1: of %d and %d: Add has %d, Sub has %d", a, b, sum[a&255], rest[a&255])
			}
		}
	}
}

func TestOverAndBackByTheWords(t *testing.T) {
	for i, f := range polys() {
		if !slices.Equal(Over(f), slowOver(f)) {
			t.Errorf("P4.1: Over of the %d-th poly is %v", i, Over(f))
		}
		if !slices.Equal(Back(f), slowBack(f)) {
			t.Errorf("P4.1: Back of the %d-th poly is %v", i, Back(f))
		}
	}
}

func TestOverAndBackOfOneNumber(t *testing.T) {
	for place := range count {
		for _, x := range []int{1, prime - 1} {
			f := at(place, x, 0)
			if !slices.Equal(Over(f), slowOver(f)) || !slices.Equal(Back(f), slowBack(f)) {
				t.Fatalf("P4.1: Over or Back of %d at place %d", x, place)
			}
		}
	}
}

// A pair of Over(f) is what is left of f where the unknown's square is the pair's power of 17.
func TestOverIsWhatIsLeft(t *testing.T) {
	for k, f := range polys() {
		over := Over(f)
		for i := range 128 {
			z := slowPower(2*turned(i) + 1)
			even, odd := 0, 0
			for j := count - 2; j >= 0; j -= 2 {
				even, odd = (even*z+f[j])%prime, (odd*z+f[j+1])%prime
			}
			if over[2*i] != even || over[2*i+1] != odd {
				t.Fatalf("P4.1: Over of the %d-th poly, pair %d: %d and %d, not %d and %d", k, i, over[2*i], over[2*i+1], even, odd)
			}
		}
	}
}

func TestThereAndBack(t *testing.T) {
	for i, f := range polys() {
		if !slices.Equal(Back(Over(f)), f) {
			t.Errorf("P4.2: Back(Over(f)) isn't f, the %d-th", i)
		}
		if !slices.Equal(Over(Back(f)), f) {
			t.Errorf("P4.2: Over(Back(f)) isn't f, the %d-th", i)
		}
	}
	for seed := range 300 {
		if f := drawn(1000 + seed); !slices.Equal(Back(Over(f)), f) || !slices.Equal(Over(Back(f)), f) {
			t.Fatalf("P4.2: there and back, of the %d-th drawn poly", seed)
		}
	}
}

func TestTimesByTheWords(t *testing.T) {
	for i, f := range polys() {
		for k, g := range polys() {
			if got, want := Times(f, g), slowTimes(f, g); !slices.Equal(got, want) {
				t.Fatalf("P4.1: Times of the polys %d and %d is %v, not %v", i, k, got, want)
			}
		}
	}
}

func TestTimesPairByPair(t *testing.T) {
	for place := range count {
		for _, other := range []int{place, place ^ 1, (place + 2) % count} {
			f, g := at(place, prime-1, 0), at(other, prime-2, 0)
			if !slices.Equal(Times(f, g), slowTimes(f, g)) {
				t.Fatalf("P4.1: Times of one number at %d, one at %d", place, other)
			}
		}
	}
}

func TestProducts(t *testing.T) {
	for i, f := range polys() {
		for k, g := range polys() {
			if got, want := Back(Times(Over(f), Over(g))), product(f, g); !slices.Equal(got, want) {
				t.Fatalf("P4.2: the product of the polys %d and %d is %v, not %v", i, k, got, want)
			}
		}
	}
}

func TestTheUnknownsPowers(t *testing.T) {
	for i := range count {
		for _, k := range []int{1, 128, 255} {
			want := at((i+k)%count, 1, 0)
			if i+k >= count {
				want = at((i+k)%count, prime-1, 0)
			}
			if got := Back(Times(Over(at(i, 1, 0)), Over(at(k, 1, 0)))); !slices.Equal(got, want) {
				t.Fatalf("P4.2: the powers %d and %d of the unknown make %v", i, k, got)
			}
		}
	}
}

func TestDot(t *testing.T) {
	for _, many := range []int{1, 2, 3, 4, 7, 40} {
		var fs, gs [][]int
		want := filled(0)
		for i := range many {
			fs, gs = append(fs, drawn(i)), append(gs, drawn(500+i*many))
			want = plus(want, slowTimes(fs[i], gs[i]))
		}
		if !slices.Equal(Dot(fs, gs), want) {
			t.Errorf("P4.1: Dot of %d polys is %v", many, Dot(fs, gs))
		}
	}
}

func TestDotOfTheEdges(t *testing.T) {
	all := polys()
	want := filled(0)
	for _, f := range all {
		want = plus(want, slowTimes(f, f))
	}
	if !slices.Equal(Dot(all, all), want) {
		t.Error("P4.1: Dot of polys with themselves")
	}
	top, many := filled(prime-1), 300
	want = filled(0)
	for range many {
		want = plus(want, slowTimes(top, top))
	}
	if tops := slices.Repeat([][]int{top}, many); !slices.Equal(Dot(tops, tops), want) {
		t.Error("P4.1: Dot of many polys of q - 1")
	}
}

func TestDotOfListsThatAreNone(t *testing.T) {
	f := drawn(1)
	cases := map[string][2][][]int{
		"nil and nil":            {nil, nil},
		"empty and empty":        {{}, {}},
		"nil and empty":          {nil, {}},
		"empty and nil":          {{}, nil},
		"none and one":           {nil, {f}},
		"one and none":           {{f}, nil},
		"one and two":            {{f}, {f, f}},
		"two and one":            {{f, f}, {f}},
		"three and two":          {{f, f, f}, {f, f}},
		"one, and one and a nil": {{f}, {f, nil}},
		"one and a nil, and one": {{f, nil}, {f}},
	}
	for what, lists := range cases {
		if got := Dot(lists[0], lists[1]); len(got) != 0 {
			t.Errorf("P4.1: Dot of %s tells %d numbers", what, len(got))
		}
	}
}

func TestDotOfWhatIsNoPoly(t *testing.T) {
	for what, odd := range wrong() {
		for place := range 3 {
			good, bad := [][]int{drawn(1), drawn(2), drawn(3)}, [][]int{drawn(4), drawn(5), drawn(6)}
			bad[place] = odd
			for _, got := range [][]int{Dot(good, bad), Dot(bad, good), Dot(bad, bad)} {
				if len(got) != 0 {
					t.Errorf("P4.1: Dot with %s as number %d tells %d numbers", what, place, len(got))
				}
			}
		}
	}
}

func TestWhatIsNoPoly(t *testing.T) {
	f := drawn(1)
	pairs := map[string]func([]int, []int) []int{"Add": Add, "Sub": Sub, "Times": Times}
	singles := map[string]func([]int) []int{"Over": Over, "Back": Back}
	for what, odd := range wrong() {
		for name, call := range pairs {
			if len(call(odd, f)) != 0 || len(call(f, odd)) != 0 || len(call(odd, odd)) != 0 {
				t.Errorf("P4.1: %s with %s tells numbers", name, what)
			}
		}
		for name, call := range singles {
			if len(call(odd)) != 0 {
				t.Errorf("P4.1: %s of %s tells numbers", name, what)
			}
		}
	}
}

// roomy is f with spare room behind it, which holds a mark.
func roomy(f []int) []int {
	room := append(slices.Clone(f), slices.Repeat([]int{-77}, 64)...)
	return room[:len(f)]
}

// whole is f with its spare room.
func whole(f []int) []int { return slices.Clone(f[:cap(f)]) }

// calls are all that answer a list, each of two polys.
func calls() map[string]func(f []int, g []int) []int {
	return map[string]func(f []int, g []int) []int{
		"Add":   Add,
		"Sub":   Sub,
		"Times": Times,
		"Over":  func(f []int, _ []int) []int { return Over(f) },
		"Back":  func(f []int, _ []int) []int { return Back(f) },
		"Dot":   func(f []int, g []int) []int { return Dot([][]int{f, g, f}, [][]int{g, f, g}) },
		"Dot of one": func(f []int, g []int) []int {
			return Dot([][]int{f}, [][]int{g})
		},
	}
}

// What is handed in is told by what it holds, with its spare room, ahead of the call and behind it; then all of it, and all of the answer, is written over.
func TestNoCallChangesOrKeepsWhatItWasGiven(t *testing.T) {
	for name, call := range calls() {
		for i, f := range polys() {
			f, g := roomy(f), roomy(drawn(900+i))
			hadF, hadG := whole(f), whole(g)
			answer := call(f, g)
			want := slices.Clone(answer)
			if again := call(f, g); !slices.Equal(again, want) {
				t.Fatalf("R5: %s told another answer the second time", name)
			} else {
				clear(again[:cap(again)])
			}
			if !slices.Equal(answer, want) {
				t.Fatalf("R4: two answers of %s share memory", name)
			}
			if !slices.Equal(whole(f), hadF) || !slices.Equal(whole(g), hadG) {
				t.Fatalf("R4: %s changed what it was given, or shares memory with it", name)
			}
			clear(f[:cap(f)])
			clear(g[:cap(g)])
			if !slices.Equal(answer, want) {
				t.Fatalf("R4: the answer of %s shares memory with what was given", name)
			}
		}
	}
}

func TestTheSameListAsBothArguments(t *testing.T) {
	for name, call := range calls() {
		f := roomy(drawn(3))
		had := whole(f)
		if got, want := call(f, f), call(drawn(3), drawn(3)); !slices.Equal(got, want) {
			t.Errorf("R4: %s of one list with itself is %v", name, got)
		}
		if !slices.Equal(whole(f), had) {
			t.Errorf("R4: %s of one list with itself changed it", name)
		}
	}
}

func TestWhatIsNoPolyIsNotChanged(t *testing.T) {
	for what, odd := range wrong() {
		for name, call := range calls() {
			odd, f := roomy(odd), roomy(drawn(2))
			hadOdd, hadF := whole(odd), whole(f)
			call(odd, f)
			call(f, odd)
			if !slices.Equal(whole(odd), hadOdd) || !slices.Equal(whole(f), hadF) {
				t.Errorf("R4: %s changed %s, or the poly beside it", name, what)
			}
		}
	}
}

func TestDotKeepsItsLists(t *testing.T) {
	fs := make([][]int, 2, 4)
	gs := make([][]int, 2, 4)
	for i := range 4 {
		fs[:4][i], gs[:4][i] = drawn(i), drawn(10+i)
	}
	Dot(fs, gs)
	for i := range 4 {
		if !slices.Equal(fs[:4][i], drawn(i)) || !slices.Equal(gs[:4][i], drawn(10+i)) {
			t.Errorf("R4: Dot changed number %d of a list, or of its spare room", i)
		}
	}
}

func TestManyAtOnce(t *testing.T) {
	f, g := drawn(1), drawn(2)
	for name, call := range calls() {
		want := call(f, g)
		var all sync.WaitGroup
		for range 8 {
			all.Go(func() {
				for range 20 {
					if !slices.Equal(call(f, g), want) {
						t.Errorf("R5: %s told another answer beside other calls", name)
					}
				}
			})
		}
		all.Wait()
	}
}

func BenchmarkOver(b *testing.B) {
	f := drawn(1)
	for b.Loop() {
		Over(f)
	}
}

func BenchmarkBack(b *testing.B) {
	f := drawn(1)
	for b.Loop() {
		Back(f)
	}
}

func BenchmarkTimes(b *testing.B) {
	f, g := drawn(1), drawn(2)
	for b.Loop() {
		Times(f, g)
	}
}
