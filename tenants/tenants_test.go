package tenants

import (
	"errors"
	"math"
	"math/rand/v2"
	"slices"
	"strconv"
	"strings"
	"testing"

	"chatelaine/api"
)

// is tells whether an error is a Fault with that Errno, or none of OK.
func is(e error, want api.Errno) bool {
	if want == api.OK {
		return e == nil
	}
	var f *api.Fault
	return errors.As(e, &f) && f.Code == want && errors.Is(e, want) && api.Code(e) == want
}

// under is a list of tenants with these parents, each of a name of its own.
func under(parents ...int) []api.Tenant {
	var l []api.Tenant
	for i, p := range parents {
		l = append(l, api.Tenant{ID: i + 1, Parent: p, Name: "t" + strconv.Itoa(i+1)})
	}
	return l
}

// As many tenants as may be: a line, one with all others below it, two below each, and mixed ones.
func line() []api.Tenant  { return under(0, 1, 2, 3, 4, 5, 6, 7) }
func star() []api.Tenant  { return under(0, 1, 1, 1, 1, 1, 1, 1) }
func twos() []api.Tenant  { return under(0, 1, 1, 2, 2, 3, 3, 4) }
func mixed() []api.Tenant { return under(0, 1, 2, 1, 4, 2, 4, 7) }

func with(l []api.Tenant, change func(l []api.Tenant)) []api.Tenant {
	l = slices.Clone(l)
	change(l)
	return l
}

// slowMay goes by the chapter's words.
func slowMay(l []api.Tenant) bool {
	if len(l) > 8 {
		return false
	}
	may := true
	for i, x := range l {
		may = may && x.ID == i+1 && len(x.Name) > 0 && len(x.Name) <= 300
		if i == 0 {
			may = may && x.Parent == 0
		} else {
			may = may && 1 <= x.Parent && x.Parent < x.ID
		}
		for j, y := range l {
			may = may && (i == j || x.Parent != y.Parent || x.Name != y.Name)
		}
	}
	return may
}

// slowAbove goes by the chapter's words, in a list that may be: a is b, or the parent of one that is above b.
func slowAbove(l []api.Tenant, a, b int) bool {
	if a < 1 || a > len(l) || b < 1 || b > len(l) {
		return false
	}
	found := a == b
	for _, x := range l {
		found = found || x.Parent == a && slowAbove(l, x.ID, b)
	}
	return found
}

// slowPath goes from the last tenant to the first, as no child is ahead of its parent.
func slowPath(l []api.Tenant, a int) []int {
	var path []int
	for _, x := range slices.Backward(l) {
		if x.ID == a {
			path = append(path, a)
			a = x.Parent
		}
	}
	return path
}

// slowAdd tells which error Add has, going by the chapter's words.
func slowAdd(l []api.Tenant, parent int, name string) api.Errno {
	if !slowMay(l) {
		return api.ErrArg
	}
	if parent < 1 || parent > len(l) {
		return api.ErrNone
	}
	if len(name) < 1 || len(name) > 300 {
		return api.ErrArg
	}
	for _, x := range l {
		if x.Parent == parent && x.Name == name {
			return api.ErrTwice
		}
	}
	if len(l) == 8 {
		return api.ErrFull
	}
	return api.OK
}

// checkAdd holds Add against what is to be told.
func checkAdd(t *testing.T, what string, l []api.Tenant, parent int, name string, want api.Errno) {
	t.Helper()
	had := slices.Clone(l)
	got, id, e := Add(l, parent, name)
	if !is(e, want) {
		t.Errorf("P16.1: Add of %s, parent %d: %v, not %v", what, parent, e, want)
		return
	}
	if want != api.OK {
		if len(got) != 0 || id != 0 {
			t.Errorf("R2: Add of %s, parent %d, tells something beside an error", what, parent)
		}
	} else if id != len(had)+1 || !slices.Equal(got, append(slices.Clone(had), api.Tenant{ID: id, Parent: parent, Name: name})) {
		t.Errorf("P16.1: Add of %s, parent %d, answers another list, or another ID: %d", what, parent, id)
	}
	if !slices.Equal(l, had) {
		t.Errorf("R4: Add of %s, parent %d, changes the list", what, parent)
	}
}

// ids are numbers of tenants, there or not.
func ids() []int {
	return []int{-9, -8, -2, -1, 0, 1, 2, 3, 4, 5, 6, 7, 8, 9, 10, 16, 255, 256, 257, 1<<32 + 1, 1 << 40, -1 << 32, math.MinInt, math.MinInt + 1, math.MinInt + 2, math.MaxInt - 1, math.MaxInt}
}

// checkList holds every call against what is to be told of l.
func checkList(t *testing.T, what string, l []api.Tenant, may bool) {
	t.Helper()
	if May(l) != may || slowMay(l) != may {
		t.Errorf("P16.1: May of %s is not %v", what, may)
	}
	for _, a := range ids() {
		checkAdd(t, what+", a new name", l, a, "new", slowAdd(l, a, "new"))
		checkAdd(t, what+", no name", l, a, "", slowAdd(l, a, ""))
		var path []int
		if may {
			path = slowPath(l, a)
		}
		if got := Path(l, a); !slices.Equal(got, path) {
			t.Errorf("P16.1: Path(%d) of %s is %v, not %v", a, what, got, path)
		}
		for _, b := range ids() {
			if above := may && slowAbove(l, a, b); Above(l, a, b) != above {
				t.Errorf("P16.1: Above(%d, %d) of %s is not %v", a, b, what, above)
			}
		}
	}
}

func TestNoTenants(t *testing.T) {
	for _, l := range [][]api.Tenant{nil, {}, line()[:0], line()[4:4]} {
		checkList(t, "no tenants", l, true)
		for _, a := range ids() {
			checkAdd(t, "no tenants", l, a, "first", api.ErrNone)
			checkAdd(t, "no tenants, no name", l, a, "", api.ErrNone)
		}
	}
}

func TestHowMany(t *testing.T) {
	if api.MaxTenants != 8 || api.MaxNote != 300 {
		t.Fatal("the limits are other ones")
	}
	for _, parents := range [][]int{
		{0, 1, 2, 3, 4, 5, 6, 7, 8, 9, 10},
		{0, 1, 1, 1, 1, 1, 1, 1, 1, 1, 1},
		{0, 1, 1, 2, 2, 3, 3, 4, 4, 5, 5},
		{0, 1, 2, 1, 4, 2, 4, 7, 2, 1, 8},
	} {
		for n := range len(parents) + 1 {
			checkList(t, strconv.Itoa(n)+" tenants", under(parents[:n]...), n <= 8)
		}
	}
	many := make([]int, 10000)
	for i := range many {
		many[i] = min(i, 1)
	}
	checkList(t, "very many tenants", under(many...), false)
}

func TestEachID(t *testing.T) {
	for _, l := range [][]api.Tenant{line(), star(), mixed(), line()[:5], star()[:1], star()[:2]} {
		for i := range l {
			for _, id := range ids() {
				checkList(t, "an ID at "+strconv.Itoa(i), with(l, func(l []api.Tenant) { l[i].ID = id }), id == i+1)
			}
		}
	}
	checkList(t, "IDs from 0", with(star(), func(l []api.Tenant) {
		for i := range l {
			l[i].ID--
		}
	}), false)
	checkList(t, "IDs turned round", with(star(), slices.Reverse), false)
	for i := range 7 {
		checkList(t, "two turned round", with(star(), func(l []api.Tenant) { l[i], l[i+1] = l[i+1], l[i] }), false)
	}
	checkList(t, "none in the midst", slices.Delete(star(), 3, 4), false)
	checkList(t, "none at the beginning", star()[1:], false)
}

func TestEachParent(t *testing.T) {
	for _, l := range [][]api.Tenant{line(), star(), twos(), mixed(), line()[:5], star()[:1], star()[:2]} {
		for i := range l {
			for _, p := range ids() {
				may := p == 0
				if i > 0 {
					may = 1 <= p && p <= i
				}
				checkList(t, "a parent at "+strconv.Itoa(i), with(l, func(l []api.Tenant) { l[i].Parent = p }), may)
			}
		}
	}
	checkList(t, "two above each other", under(0, 3, 2), false)
	checkList(t, "two that nobody is above", under(0, 0), false)
	checkList(t, "each above itself", under(1, 2, 3), false)
}

// names are names, and whether they may be.
func names() map[string]bool {
	return map[string]bool{
		"": false, "n": true, "nn": true, "\x00": true, "\xff": true, "\xff\xfe": true, "\xc3\x28": true, "\xed\xa0\x80": true, "\ufffd": true, " ": true, "a\nb\tc": true, "é日本": true,
		strings.Repeat("n", 255): true, strings.Repeat("n", 256): true, strings.Repeat("n", 299): true, strings.Repeat("n", 300): true, strings.Repeat("n", 301): false, strings.Repeat("n", 302): false,
		strings.Repeat("n", 512): false, strings.Repeat("n", 556): false, strings.Repeat("n", 65536): false, strings.Repeat("n", 65537): false,
		strings.Repeat("\x00", 300): true, strings.Repeat("\x00", 301): false, strings.Repeat("\xff", 300): true, strings.Repeat("\xff", 301): false,
		strings.Repeat("é", 150): true, strings.Repeat("é", 150) + "n": false, strings.Repeat("é", 151): false, strings.Repeat("é", 300): false,
		strings.Repeat("日", 100): true, strings.Repeat("日", 101): false,
	}
}

// Bytes of a name are counted, not letters; and it need not be of letters.
func TestEachName(t *testing.T) {
	for name, may := range names() {
		for _, l := range [][]api.Tenant{line(), star(), mixed()[:5], star()[:1], star()[:2]} {
			for i := range l {
				checkList(t, "a name at "+strconv.Itoa(i), with(l, func(l []api.Tenant) { l[i].Name = name }), may)
			}
			want := api.OK
			if !may {
				want = api.ErrArg
			} else if len(l) == 8 {
				want = api.ErrFull
			}
			for a := range len(l) {
				checkAdd(t, "a name", l, a+1, name, want)
			}
		}
	}
}

// What two of one parent may not have, two of two parents may: beside each other and far apart.
func TestOneNameTwice(t *testing.T) {
	for _, l := range [][]api.Tenant{line(), star(), twos(), mixed()} {
		for i := range l {
			for j := range i {
				for _, name := range []string{"x", "\x00", "\xff\xfe", strings.Repeat("n", 300)} {
					both := with(l, func(l []api.Tenant) { l[i].Name, l[j].Name = name, strings.Clone(name) })
					checkList(t, "one name at "+strconv.Itoa(j)+" and "+strconv.Itoa(i), both, l[i].Parent != l[j].Parent)
				}
			}
		}
	}
	checkList(t, "one name for all of a line", with(line(), func(l []api.Tenant) {
		for i := range l {
			l[i].Name = "x"
		}
	}), true)
}

// A name is another one by any of its bytes, and by how many it has.
func TestNamesThatAreAlmostAlike(t *testing.T) {
	long := strings.Repeat("n", 299)
	for _, two := range [][2]string{{"a", "A"}, {"a", "a "}, {"a", " a"}, {"a", "a\x00"}, {"a", "aa"}, {"\xff", "\xfe"}, {"\xff", "\ufffd"}, {"é", "e\u0301"}, {"\x00", "\x00\x00"}, {long, long + "n"}, {long + "n", long + "m"}, {"n" + long, "m" + long}} {
		l := with(star()[:7], func(l []api.Tenant) { l[1].Name, l[6].Name = two[0], two[1] })
		checkList(t, "names that are almost alike", l, true)
		l[6].Name = "other"
		checkAdd(t, "a name that is almost there", l, 1, two[1], api.OK)
		checkAdd(t, "a name that is there", l, 1, strings.Clone(two[0]), api.ErrTwice)
	}
}

func TestAddOfOneNameTwice(t *testing.T) {
	for _, l := range [][]api.Tenant{line()[:7], star()[:7], twos()[:7], mixed()[:7], line()[:2], star()[:1]} {
		for i, x := range l {
			for p := 1; p <= len(l); p++ {
				want := api.OK
				if p == x.Parent {
					want = api.ErrTwice
				}
				checkAdd(t, "the name at "+strconv.Itoa(i), l, p, strings.Clone(x.Name), want)
			}
		}
	}
}

// The list comes first, then the parent, then the name, then whether it is there, then how many there are.
func TestWhichErrorIsFirst(t *testing.T) {
	full, long := star(), strings.Repeat("n", 301)
	wrong := with(full, func(l []api.Tenant) { l[3].Name = "t2" })
	for _, x := range []struct {
		what   string
		l      []api.Tenant
		parent int
		name   string
		want   api.Errno
	}{
		{"a wrong list", wrong, 1, "new", api.ErrArg},
		{"a wrong list, no parent", wrong, 0, "new", api.ErrArg},
		{"a wrong list, no parent, no name", wrong, 9, "", api.ErrArg},
		{"a wrong list, a name that is there", wrong, 1, "t2", api.ErrArg},
		{"a wrong list that is not full, no parent", wrong[:4], 5, "new", api.ErrArg},
		{"a long list", under(0, 1, 1, 1, 1, 1, 1, 1, 1), 1, "new", api.ErrArg},
		{"a long list, a name that is there", under(0, 1, 1, 1, 1, 1, 1, 1, 1), 1, "t2", api.ErrArg},
		{"a long list, no parent", under(0, 1, 1, 1, 1, 1, 1, 1, 1), 10, "new", api.ErrArg},
		{"no parent, no name, full", full, 9, "", api.ErrNone},
		{"no parent, a long name, full", full, 0, long, api.ErrNone},
		{"no parent, full", full, -1, "new", api.ErrNone},
		{"the first one's parent and name", full, 0, "t1", api.ErrNone},
		{"no parent, no name", full[:3], 4, "", api.ErrNone},
		{"no name, full", full, 1, "", api.ErrArg},
		{"a long name, full", full, 8, long, api.ErrArg},
		{"a name that is there, full", full, 1, "t2", api.ErrTwice},
		{"a name that is there, not full", full[:7], 1, "t7", api.ErrTwice},
		{"a name that is another parent's child's, full", full, 2, "t2", api.ErrFull},
		{"full", full, 1, "new", api.ErrFull},
		{"full, the last one's child", line(), 8, "new", api.ErrFull},
		{"one less than full", line()[:7], 7, "new", api.OK},
		{"the parent's own name", full[:7], 2, "t2", api.OK},
	} {
		checkAdd(t, x.what, x.l, x.parent, x.name, x.want)
		if slowAdd(x.l, x.parent, x.name) != x.want {
			t.Errorf("Add of %s is %v by the slow way", x.what, slowAdd(x.l, x.parent, x.name))
		}
	}
}

// everyTree hands out all trees of n tenants.
func everyTree(n int, each func(parents []int)) {
	parents := []int{0}
	var grow func()
	grow = func() {
		if len(parents) == n {
			each(parents)
			return
		}
		for p := 1; p <= len(parents); p++ {
			parents = append(parents, p)
			grow()
			parents = parents[:len(parents)-1]
		}
	}
	grow()
}

// Of all trees there are, each two tenants and each path.
func TestEveryTree(t *testing.T) {
	for n := 1; n <= 8; n++ {
		count := 0
		everyTree(n, func(parents []int) {
			count++
			l := under(parents...)
			if !May(l) {
				t.Errorf("P16.1: May of the tree %v is false", parents)
			}
			for a := -1; a <= n+1; a++ {
				if got, want := Path(l, a), slowPath(l, a); !slices.Equal(got, want) {
					t.Errorf("P16.1: Path(%d) of the tree %v is %v, not %v", a, parents, got, want)
				}
				for b := -1; b <= n+1; b++ {
					if want := slowAbove(l, a, b); Above(l, a, b) != want {
						t.Errorf("P16.1: Above(%d, %d) of the tree %v is not %v", a, b, parents, want)
					}
				}
			}
		})
		if want := []int{0, 1, 1, 2, 6, 24, 120, 720, 5040}[n]; count != want {
			t.Errorf("%d trees of %d tenants are tried, not %d", count, n, want)
		}
	}
}

func TestTreesByHand(t *testing.T) {
	for _, x := range []struct {
		l     []api.Tenant
		paths [][]int
	}{
		{line(), [][]int{{1}, {2, 1}, {3, 2, 1}, {4, 3, 2, 1}, {5, 4, 3, 2, 1}, {6, 5, 4, 3, 2, 1}, {7, 6, 5, 4, 3, 2, 1}, {8, 7, 6, 5, 4, 3, 2, 1}}},
		{star(), [][]int{{1}, {2, 1}, {3, 1}, {4, 1}, {5, 1}, {6, 1}, {7, 1}, {8, 1}}},
		{twos(), [][]int{{1}, {2, 1}, {3, 1}, {4, 2, 1}, {5, 2, 1}, {6, 3, 1}, {7, 3, 1}, {8, 4, 2, 1}}},
		{mixed(), [][]int{{1}, {2, 1}, {3, 2, 1}, {4, 1}, {5, 4, 1}, {6, 2, 1}, {7, 4, 1}, {8, 7, 4, 1}}},
	} {
		for i, want := range x.paths {
			b := i + 1
			if got := Path(x.l, b); !slices.Equal(got, want) {
				t.Errorf("P16.1: Path(%d) is %v, not %v", b, got, want)
			}
			for a := -1; a <= 10; a++ {
				if Above(x.l, a, b) != slices.Contains(want, a) {
					t.Errorf("P16.1: Above(%d, %d) is not %v", a, b, slices.Contains(want, a))
				}
			}
		}
		checkList(t, "a tree", x.l, true)
	}
}

// everyList hands out all lists of n of these tenants.
func everyList(n int, of []api.Tenant, each func(l []api.Tenant)) {
	l := make([]api.Tenant, n)
	var choose func(i int)
	choose = func(i int) {
		if i == n {
			each(l)
			return
		}
		for _, l[i] = range of {
			choose(i + 1)
		}
	}
	choose(0)
}

// All lists of up to three tenants of small numbers, right or wrong.
func TestEveryShortList(t *testing.T) {
	var of []api.Tenant
	for id := -1; id <= 4; id++ {
		for parent := -1; parent <= 3; parent++ {
			for _, name := range []string{"", "a", "b"} {
				of = append(of, api.Tenant{ID: id, Parent: parent, Name: name})
			}
		}
	}
	for n := range 4 {
		right := 0
		everyList(n, of, func(l []api.Tenant) {
			may := slowMay(l)
			if May(l) != may {
				t.Errorf("P16.1: May of %v is not %v", l, may)
			}
			if may {
				right++
				for parent := -1; parent <= 5; parent++ {
					for _, name := range []string{"", "a", "b", "c"} {
						checkAdd(t, "a short list", l, parent, name, slowAdd(l, parent, name))
					}
				}
			}
		})
		if want := []int{1, 2, 4, 12}[n]; right != want {
			t.Errorf("%d lists of %d tenants may be, not %d", right, n, want)
		}
	}
}

// drawn is a list that may be, of n tenants.
func drawn(from *rand.Rand, n int) []api.Tenant {
	for {
		var l []api.Tenant
		for i := range n {
			l = append(l, api.Tenant{ID: i + 1, Parent: min(i, 1), Name: []string{"a", "b", "c", "d", "\xff", "\x00"}[from.IntN(6)]})
			if i > 1 {
				l[i].Parent += from.IntN(i)
			}
		}
		if slowMay(l) {
			return l
		}
	}
}

// spoil changes one thing of a list.
func spoil(from *rand.Rand, l []api.Tenant) []api.Tenant {
	if len(l) == 0 {
		return l
	}
	i, j := from.IntN(len(l)), from.IntN(len(l))
	switch from.IntN(7) {
	case 0:
		l[i].ID = ids()[from.IntN(len(ids()))]
	case 1:
		l[i].Parent = ids()[from.IntN(len(ids()))]
	case 2:
		l[i].Name = ""
	case 3:
		l[i].Name = strings.Repeat("n", 299+from.IntN(4))
	case 4:
		l[i].Name = l[j].Name
	case 5:
		l[i], l[j] = l[j], l[i]
	case 6:
		l = slices.Delete(l, i, i+1)
	}
	return l
}

func TestDrawnLists(t *testing.T) {
	from := rand.New(rand.NewPCG(16, 1))
	right, wrong := 0, 0
	for range 3000 {
		l := drawn(from, from.IntN(9))
		for range from.IntN(3) {
			l = spoil(from, l)
		}
		may := slowMay(l)
		checkList(t, "a drawn list", l, may)
		for _, x := range l {
			checkAdd(t, "a drawn list", l, x.Parent, x.Name, slowAdd(l, x.Parent, x.Name))
			checkAdd(t, "a drawn list", l, x.ID, x.Name, slowAdd(l, x.ID, x.Name))
		}
		if may {
			right++
		} else {
			wrong++
		}
	}
	if right < 500 || wrong < 500 {
		t.Errorf("%d lists that may be are tried, and %d that may not", right, wrong)
	}
}

// Lists grow by Add from one tenant on, until they are full.
func TestAddUntilFull(t *testing.T) {
	from := rand.New(rand.NewPCG(16, 2))
	for range 500 {
		l := under(0)
		for len(l) < 8 {
			parent, name := from.IntN(len(l)+2), []string{"", "a", "b", "c"}[from.IntN(4)]
			want := slowAdd(l, parent, name)
			checkAdd(t, "a list that grows", l, parent, name, want)
			if more, id, e := Add(l, parent, name); e == nil {
				if l = more; len(l) != id || !May(l) || !Above(l, parent, id) || Above(l, id, parent) {
					t.Errorf("P16.1: tenant %d, a child of %d, makes %v", id, parent, l)
				}
			}
		}
		checkAdd(t, "a full list", l, 1+from.IntN(8), "new", api.ErrFull)
	}
}
