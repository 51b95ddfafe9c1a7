package tests

import (
	"math"
	"slices"
	"testing"

	"loop.example/g00467/impl"
)

// agesOf returns the versions with these pairs of Id and From.
func agesOf(pairs ...int) []impl.Age {
	var out []impl.Age
	for i := 0; i < len(pairs); i += 2 {
		out = append(out, impl.Age{Id: pairs[i], From: pairs[i+1]})
	}
	return out
}

// chainOf returns n versions of which each is the parent of the next one. Their
// Ids are 3 apart and start with first.
func chainOf(first, n int) []impl.Age {
	var out []impl.Age
	for i := range n {
		a := impl.Age{Id: first + 3*i}
		if i > 0 {
			a.From = out[i-1].Id
		}
		out = append(out, a)
	}
	return out
}

// family returns a forest with two roots: 2 has the children 5 and 30, 5 has 6
// and 9, 6 has 20, and 7 has 8.
func family() []impl.Age {
	return agesOf(2, 0, 5, 2, 6, 5, 7, 0, 8, 7, 9, 5, 20, 6, 30, 2)
}

// eachForest calls f with every valid list of versions that have these Ids.
func eachForest(ids []int, f func(l []impl.Age)) {
	l := make([]impl.Age, len(ids))
	var choose func(i int)
	choose = func(i int) {
		if i == len(ids) {
			f(slices.Clone(l))
			return
		}
		for _, from := range append([]int{0}, ids[:i]...) {
			l[i] = impl.Age{Id: ids[i], From: from}
			choose(i + 1)
		}
	}
	choose(0)
}

// eachShortList calls f with every list of at most 3 versions with these
// numbers, valid or not.
func eachShortList(numbers []int, f func(l []impl.Age)) {
	var extend func(l []impl.Age, room int)
	extend = func(l []impl.Age, room int) {
		f(l)
		if room == 0 {
			return
		}
		for _, id := range numbers {
			for _, from := range numbers {
				extend(append(slices.Clone(l), impl.Age{Id: id, From: from}), room-1)
			}
		}
	}
	extend(nil, 3)
}

// invalidAges returns a list for each reason why a list is not valid.
func invalidAges() map[string][]impl.Age {
	return map[string][]impl.Age{
		"an Id of 0":                      agesOf(0, 0),
		"an Id of 0 that is a parent":     agesOf(0, 0, 1, 0),
		"an Id of MaxAge+1":               agesOf(1, 0, 61, 1),
		"a negative Id":                   agesOf(-1, 0, 1, 0),
		"the least Id":                    agesOf(math.MinInt, 0, 1, 0),
		"the greatest Id":                 agesOf(1, 0, math.MaxInt, 1),
		"descending Ids":                  agesOf(1, 0, 5, 1, 3, 1),
		"descending roots":                agesOf(2, 0, 1, 0),
		"equal Ids":                       agesOf(1, 0, 4, 1, 4, 1),
		"equal Ids of different parents":  agesOf(1, 0, 2, 0, 4, 1, 4, 2),
		"a From that does not exist":      agesOf(1, 0, 3, 2),
		"a From of a later version":       agesOf(1, 2, 2, 0),
		"a From of a later version below": agesOf(1, 0, 3, 5, 5, 1),
		"a negative From":                 agesOf(1, 0, 3, -1),
		"the least From":                  agesOf(1, math.MinInt),
		"a From of MaxAge+1":              agesOf(1, 0, 3, 61),
		"a version that is its parent":    agesOf(1, 1),
		"a second one that is its parent": agesOf(1, 0, 3, 3),
		"two that are their parents":      agesOf(1, 2, 2, 1),
		"three in a circle":               agesOf(1, 0, 2, 5, 3, 2, 5, 3),
		"a way into a circle":             agesOf(2, 4, 4, 2, 6, 4, 8, 6),
		"17 versions":                     chainOf(1, 17),
		"17 roots":                        rootsOf(17),
	}
}

func rootsOf(n int) []impl.Age {
	var out []impl.Age
	for i := range n {
		out = append(out, impl.Age{Id: i + 1})
	}
	return out
}

// firstWith says what AgeAt returns.
func firstWith(l []impl.Age, id int) int {
	return slices.IndexFunc(l, func(a impl.Age) bool { return a.Id == id })
}

// validAges says what AgesOk returns.
func validAges(l []impl.Age) bool {
	ok, seen, last := len(l) <= 16, map[int]bool{0: true}, 0
	for _, a := range l {
		ok = ok && within(a.Id, 1, 60) && a.Id > last && seen[a.From]
		seen[a.Id], last = true, a.Id
	}
	return ok
}

// wayUp says what PathOf returns: it takes one step and leaves the rest to
// itself.
func wayUp(l []impl.Age, id, room int) []int {
	at := firstWith(l, id)
	if at < 0 || room == 0 {
		return nil
	}
	if l[at].From == 0 {
		return []int{id}
	}
	return append([]int{id}, wayUp(l, l[at].From, room-1)...)
}

// childrenOf says what KidsOf returns.
func childrenOf(l []impl.Age, id int) []int {
	var out []int
	for _, a := range l {
		if a.From == id && a.From != 0 {
			out = append(out, a.Id)
		}
	}
	return out
}

// afterNew says what NewAge returns, in the words of chapter 7.
func afterNew(l []impl.Age, id, from int) ([]impl.Age, bool) {
	at := slices.IndexFunc(l, func(a impl.Age) bool { return a.Id > id })
	if at < 0 {
		at = len(l)
	}
	out := slices.Concat(l[:at], []impl.Age{{Id: id, From: from}}, l[at:])
	if firstWith(l, id) >= 0 || !validAges(out) {
		return l, false
	}
	return out, true
}

// afterCut says what CutAge returns, in the words of chapter 7.
func afterCut(l []impl.Age, id int) ([]impl.Age, bool) {
	at := firstWith(l, id)
	if at < 0 || !validAges(l) {
		return l, false
	}
	var out []impl.Age
	for i, a := range l {
		if a.From == id {
			a.From = l[at].From
		}
		if i != at {
			out = append(out, a)
		}
	}
	return out, true
}

func expectAgesOk(t *testing.T, what string, l []impl.Age, want bool) {
	t.Helper()
	if got := impl.AgesOk(l); got != want {
		t.Errorf("%s: AgesOk(%v) = %v, want %v", what, l, got, want)
	}
}

func expectAgeAt(t *testing.T, l []impl.Age, id, want int) {
	t.Helper()
	if got := impl.AgeAt(l, id); got != want {
		t.Errorf("AgeAt(%v, %d) = %d, want %d", l, id, got, want)
	}
}

func expectIsFrom(t *testing.T, l []impl.Age, old, id int, want bool) {
	t.Helper()
	if got := impl.IsFrom(l, old, id); got != want {
		t.Errorf("IsFrom(%v, %d, %d) = %v, want %v", l, old, id, got, want)
	}
}

func expectPath(t *testing.T, l []impl.Age, id int, want ...int) {
	t.Helper()
	if got := impl.PathOf(l, id); !slices.Equal(got, want) {
		t.Errorf("PathOf(%v, %d) = %v, want %v", l, id, got, want)
	}
}

func expectKids(t *testing.T, l []impl.Age, id int, want ...int) {
	t.Helper()
	if got := impl.KidsOf(l, id); !slices.Equal(got, want) {
		t.Errorf("KidsOf(%v, %d) = %v, want %v", l, id, got, want)
	}
}

func expectNew(t *testing.T, what string, l []impl.Age, id, from int, want []impl.Age) {
	t.Helper()
	if got, ok := impl.NewAge(l, id, from); !ok || !slices.Equal(got, want) {
		t.Errorf("%s: NewAge(%v, %d, %d) = %v, %v, want %v, true", what, l, id, from, got, ok, want)
	}
}

func expectNoNew(t *testing.T, what string, l []impl.Age, id, from int) {
	t.Helper()
	if got, ok := impl.NewAge(l, id, from); ok || !slices.Equal(got, l) {
		t.Errorf("%s: NewAge(%v, %d, %d) = %v, %v, want the list and false", what, l, id, from, got, ok)
	}
}

func expectCut(t *testing.T, what string, l []impl.Age, id int, want []impl.Age) {
	t.Helper()
	if got, ok := impl.CutAge(l, id); !ok || !slices.Equal(got, want) {
		t.Errorf("%s: CutAge(%v, %d) = %v, %v, want %v, true", what, l, id, got, ok, want)
	}
}

func expectNoCut(t *testing.T, what string, l []impl.Age, id int) {
	t.Helper()
	if got, ok := impl.CutAge(l, id); ok || !slices.Equal(got, l) {
		t.Errorf("%s: CutAge(%v, %d) = %v, %v, want the list and false", what, l, id, got, ok)
	}
}

// expectAsWorded compares all functions of one Id with the chapter's wording.
func expectAsWorded(t *testing.T, l []impl.Age, id int) {
	t.Helper()
	expectAgeAt(t, l, id, firstWith(l, id))
	path := wayUp(l, id, len(l)+1)
	expectPath(t, l, id, path...)
	expectKids(t, l, id, childrenOf(l, id)...)
	for old := -1; old <= 62; old++ {
		expectIsFrom(t, l, old, id, slices.Contains(path, old))
	}
	if want, is := afterCut(l, id); is {
		expectCut(t, "as worded", l, id, want)
	} else {
		expectNoCut(t, "as worded", l, id)
	}
}

func expectNewAsWorded(t *testing.T, l []impl.Age, id, from int) {
	t.Helper()
	if want, is := afterNew(l, id, from); is {
		expectNew(t, "as worded", l, id, from, want)
	} else {
		expectNoNew(t, "as worded", l, id, from)
	}
}

func TestAgeConstants(t *testing.T) {
	if impl.MaxAges != 16 {
		t.Errorf("MaxAges = %d, want 16", impl.MaxAges)
	}
}

func TestAgesOk(t *testing.T) {
	expectAgesOk(t, "nil", nil, true)
	expectAgesOk(t, "an empty list", []impl.Age{}, true)
	expectAgesOk(t, "a root", agesOf(7, 0), true)
	expectAgesOk(t, "two roots", agesOf(7, 0, 9, 0), true)
	expectAgesOk(t, "a family", family(), true)
	expectAgesOk(t, "a parent that is not the one before", agesOf(1, 0, 2, 1, 3, 1), true)
	for what, l := range invalidAges() {
		expectAgesOk(t, what, l, false)
	}
	for n := range 21 {
		expectAgesOk(t, "a chain", chainOf(1, n), n <= 16)
		expectAgesOk(t, "roots", rootsOf(n), n <= 16)
	}
}

func TestAgesOkRequiresIdsInRange(t *testing.T) {
	for _, id := range []int{math.MinInt, -61, -60, -1, 0, 1, 2, 59, 60, 61, 62, 100, math.MaxInt} {
		expectAgesOk(t, "one version", agesOf(id, 0), within(id, 1, 60))
		expectAgesOk(t, "the second version", agesOf(1, 0, id, 1), within(id, 2, 60))
		expectAgesOk(t, "the first of two versions", agesOf(id, 0, 60, 0), within(id, 1, 59))
		expectAgesOk(t, "the middle of three versions", agesOf(1, 0, id, 0, 60, 0), within(id, 2, 59))
	}
}

func TestAgesOkRequiresEarlierParents(t *testing.T) {
	ids := []int{3, 8, 9, 40}
	for i := range ids {
		for from := -2; from <= 62; from++ {
			l := agesOf(3, 0, 8, 3, 9, 0, 40, 8)
			l[i].From = from
			expectAgesOk(t, "one parent changed", l, from == 0 || slices.Contains(ids[:i], from))
		}
	}
	for _, from := range []int{math.MinInt, math.MaxInt} {
		expectAgesOk(t, "a parent far out of range", agesOf(3, 0, 8, from), false)
	}
}

func TestAgesOkStopsAtTheLength(t *testing.T) {
	l := agesOf(1, 2, 2, 0, 3, 1, 2, 2)
	expectAgesOk(t, "spare versions that are not valid", l[1:2], true)
	expectAgesOk(t, "a parent ahead of the slice", agesOf(1, 0, 2, 1)[1:], false)
	expectAgesOk(t, "spare versions only", l[:0], true)
	long := chainOf(1, 18)
	expectAgesOk(t, "16 versions of 18", long[:16], true)
	expectAgesOk(t, "17 versions of 18", long[:17], false)
}

func TestAgeAt(t *testing.T) {
	for i, a := range family() {
		expectAgeAt(t, family(), a.Id, i)
	}
	for _, id := range []int{math.MinInt, -2, -1, 0, 1, 3, 4, 10, 21, 60, 61, math.MaxInt} {
		expectAgeAt(t, family(), id, -1)
		expectAgeAt(t, nil, id, -1)
		expectAgeAt(t, []impl.Age{}, id, -1)
	}
	// The parent of a version counts only if it is a version itself.
	expectAgeAt(t, agesOf(5, 9), 9, -1)
	expectAgeAt(t, agesOf(5, 0), 0, -1)
	for i, a := range chainOf(1, 16) {
		expectAgeAt(t, chainOf(1, 16), a.Id, i)
	}
}

func TestAgeAtOfInvalidLists(t *testing.T) {
	expectAgeAt(t, agesOf(4, 0, 9, 4, 4, 9, 9, 0), 4, 0)
	expectAgeAt(t, agesOf(4, 0, 9, 4, 4, 9, 9, 0), 9, 1)
	expectAgeAt(t, agesOf(9, 0, 5, 0, 1, 0), 1, 2)
	expectAgeAt(t, agesOf(9, 0, 5, 0, 1, 0), 9, 0)
	expectAgeAt(t, agesOf(9, 0, 0, 0), 0, 1)
	expectAgeAt(t, agesOf(9, 0, math.MinInt, 0, math.MaxInt, 0), math.MaxInt, 2)
	expectAgeAt(t, chainOf(1, 30), 88, 29)
	expectAgeAt(t, chainOf(1, 30)[:29], 88, -1)
}

func TestPathOf(t *testing.T) {
	l := family()
	expectPath(t, l, 2, 2)
	expectPath(t, l, 7, 7)
	expectPath(t, l, 5, 5, 2)
	expectPath(t, l, 30, 30, 2)
	expectPath(t, l, 8, 8, 7)
	expectPath(t, l, 6, 6, 5, 2)
	expectPath(t, l, 9, 9, 5, 2)
	expectPath(t, l, 20, 20, 6, 5, 2)
	for _, id := range []int{math.MinInt, -1, 0, 1, 3, 10, 21, 60, 61, math.MaxInt} {
		expectPath(t, l, id)
		expectPath(t, nil, id)
		expectPath(t, []impl.Age{}, id)
	}
	expectPath(t, l[1:], 5, 5)
	expectPath(t, l[:1], 5)
}

func TestPathOfAChain(t *testing.T) {
	for n := 1; n <= 16; n++ {
		l := chainOf(2, n)
		var want []int
		for _, a := range l {
			want = append([]int{a.Id}, want...)
			expectPath(t, l, a.Id, want...)
		}
	}
}

func TestPathOfACircle(t *testing.T) {
	expectPath(t, agesOf(1, 1), 1, 1, 1)
	expectPath(t, agesOf(1, 0, 3, 3), 3, 3, 3, 3)
	expectPath(t, agesOf(1, 0, 3, 3), 1, 1)
	expectPath(t, agesOf(1, 2, 2, 1), 1, 1, 2, 1)
	expectPath(t, agesOf(1, 2, 2, 1), 2, 2, 1, 2)
	expectPath(t, agesOf(2, 5, 3, 2, 5, 3), 5, 5, 3, 2, 5)
	expectPath(t, agesOf(2, 4, 4, 2, 6, 4, 8, 6), 8, 8, 6, 4, 2, 4)
	expectPath(t, agesOf(2, 4, 4, 2, 6, 4, 8, 6), 2, 2, 4, 2, 4, 2)
	for n := 1; n <= 40; n++ {
		l := chainOf(1, n)
		l[0].From = l[n-1].Id
		for _, a := range l {
			path := impl.PathOf(l, a.Id)
			if len(path) != n+1 || path[0] != a.Id || path[n] != a.Id {
				t.Errorf("PathOf(%v, %d) = %v, want a full circle", l, a.Id, path)
			}
		}
	}
}

func TestPathOfOtherInvalidLists(t *testing.T) {
	expectPath(t, agesOf(1, 0, 3, 2), 3, 3)
	expectPath(t, agesOf(1, 0, 3, -1), 3, 3)
	expectPath(t, agesOf(1, 2, 2, 0), 1, 1, 2)
	expectPath(t, agesOf(9, 5, 5, 7, 7, 0), 9, 9, 5, 7)
	expectPath(t, agesOf(-3, 0, 4, -3), 4, 4, -3)
	expectPath(t, agesOf(99, 0, 4, 99), 4, 4, 99)
	// The first of two versions with one Id counts.
	expectPath(t, agesOf(1, 0, 2, 0, 4, 1, 4, 2, 5, 4), 5, 5, 4, 1)
	expectPath(t, agesOf(4, 0, 4, 4), 4, 4)
	// A From of 0 is no parent, whatever the list holds.
	expectPath(t, agesOf(0, 0), 0, 0)
	expectPath(t, agesOf(0, 0, 1, 0), 1, 1)
	expectPath(t, agesOf(0, 2, 2, 1, 1, 0), 0, 0, 2, 1)
	// A chain with more than MaxAges versions is walked to its root.
	if path := impl.PathOf(chainOf(1, 40), 118); len(path) != 40 || path[39] != 1 {
		t.Errorf("the path of 40 versions is %v", path)
	}
}

func TestIsFrom(t *testing.T) {
	l := family()
	up := map[int][]int{2: {2}, 5: {5, 2}, 6: {6, 5, 2}, 7: {7}, 8: {8, 7}, 9: {9, 5, 2}, 20: {20, 6, 5, 2}, 30: {30, 2}}
	for old := -1; old <= 62; old++ {
		for id := -1; id <= 62; id++ {
			expectIsFrom(t, l, old, id, slices.Contains(up[id], old))
			expectIsFrom(t, nil, old, id, false)
			expectIsFrom(t, []impl.Age{}, old, id, false)
		}
	}
	for i, a := range chainOf(1, 16) {
		for j, b := range chainOf(1, 16) {
			expectIsFrom(t, chainOf(1, 16), a.Id, b.Id, i <= j)
		}
	}
	expectIsFrom(t, l, math.MinInt, math.MinInt, false)
	expectIsFrom(t, l, math.MaxInt, math.MaxInt, false)
}

func TestIsFromOfInvalidLists(t *testing.T) {
	expectIsFrom(t, agesOf(1, 1), 1, 1, true)
	expectIsFrom(t, agesOf(1, 2, 2, 1), 1, 2, true)
	expectIsFrom(t, agesOf(1, 2, 2, 1), 2, 1, true)
	expectIsFrom(t, agesOf(1, 2, 2, 1, 3, 0), 3, 1, false)
	// A parent that is no version is no ancestor.
	expectIsFrom(t, agesOf(1, 0, 3, 2), 2, 3, false)
	expectIsFrom(t, agesOf(1, 0, 3, 2), 2, 2, false)
	expectIsFrom(t, agesOf(1, 0), 0, 1, false)
	expectIsFrom(t, agesOf(0, 0, 1, 0), 0, 1, false)
	expectIsFrom(t, agesOf(0, 0, 1, 0), 0, 0, true)
	expectIsFrom(t, agesOf(2, 4, 4, 2, 6, 4, 8, 6), 2, 8, true)
	expectIsFrom(t, agesOf(2, 4, 4, 2, 6, 4, 8, 6), 8, 2, false)
	expectIsFrom(t, chainOf(1, 40), 1, 118, true)
}

func TestKidsOf(t *testing.T) {
	l := family()
	expectKids(t, l, 2, 5, 30)
	expectKids(t, l, 5, 6, 9)
	expectKids(t, l, 6, 20)
	expectKids(t, l, 7, 8)
	for _, id := range []int{math.MinInt, -1, 0, 1, 3, 8, 9, 20, 30, 60, 61, math.MaxInt} {
		expectKids(t, l, id)
		expectKids(t, nil, id)
		expectKids(t, []impl.Age{}, id)
	}
	star := agesOf(4, 0)
	var kids []int
	for id := 5; id < 20; id++ {
		star, kids = append(star, impl.Age{Id: id, From: 4}), append(kids, id)
	}
	expectKids(t, star, 4, kids...)
	expectKids(t, star[:9], 4, kids[:8]...)
	expectKids(t, rootsOf(16), 0)
	expectKids(t, chainOf(1, 16), 1, 4)
	expectKids(t, chainOf(1, 16), 46)
}

func TestKidsOfInvalidLists(t *testing.T) {
	// The order is that of the list, not of the Ids.
	expectKids(t, agesOf(9, 1, 4, 1, 1, 0, 6, 1), 1, 9, 4, 6)
	expectKids(t, agesOf(1, 0, 4, 1, 4, 1), 1, 4, 4)
	expectKids(t, agesOf(1, 1), 1, 1)
	expectKids(t, agesOf(1, 2, 2, 1), 1, 2)
	expectKids(t, agesOf(1, 2, 2, 1), 2, 1)
	expectKids(t, agesOf(0, 0, 1, 0, 2, 0), 0)
	expectKids(t, agesOf(-3, 0, 4, -3, 5, -3), -3, 4, 5)
	// Children of a version that is missing are still the versions whose From
	// is its Id.
	expectKids(t, agesOf(1, 0, 5, 3, 7, 3), 3, 5, 7)
}

func TestNewAge(t *testing.T) {
	l := agesOf(10, 0, 20, 10, 30, 10)
	expectNew(t, "an empty list", nil, 5, 0, agesOf(5, 0))
	expectNew(t, "an empty list", []impl.Age{}, 5, 0, agesOf(5, 0))
	expectNew(t, "first", l, 9, 0, agesOf(9, 0, 10, 0, 20, 10, 30, 10))
	expectNew(t, "first", l, 1, 0, agesOf(1, 0, 10, 0, 20, 10, 30, 10))
	expectNew(t, "in the middle", l, 11, 10, agesOf(10, 0, 11, 10, 20, 10, 30, 10))
	expectNew(t, "in the middle", l, 19, 0, agesOf(10, 0, 19, 0, 20, 10, 30, 10))
	expectNew(t, "in the middle", l, 25, 20, agesOf(10, 0, 20, 10, 25, 20, 30, 10))
	expectNew(t, "at the end", l, 31, 30, agesOf(10, 0, 20, 10, 30, 10, 31, 30))
	expectNew(t, "at the end", l, 60, 10, agesOf(10, 0, 20, 10, 30, 10, 60, 10))
	expectNew(t, "at the end", l, 60, 0, agesOf(10, 0, 20, 10, 30, 10, 60, 0))
	for _, id := range []int{10, 20, 30} {
		for _, from := range []int{0, 10, 20, 30, 40} {
			expectNoNew(t, "an Id that exists", l, id, from)
		}
	}
	for id := -1; id <= 62; id++ {
		for from := -1; from <= 62; from++ {
			expectNewAsWorded(t, l, id, from)
			expectNewAsWorded(t, nil, id, from)
		}
	}
}

func TestNewAgeRequiresAnEarlierParent(t *testing.T) {
	l := agesOf(10, 0, 20, 10, 30, 10)
	expectNoNew(t, "a parent that does not exist", l, 25, 15)
	expectNoNew(t, "a later parent", l, 25, 30)
	expectNoNew(t, "a later parent", l, 5, 10)
	expectNoNew(t, "its own parent", l, 25, 25)
	expectNoNew(t, "a negative parent", l, 25, -1)
	expectNoNew(t, "the least parent", l, 25, math.MinInt)
	expectNoNew(t, "the greatest parent", l, 25, math.MaxInt)
	expectNoNew(t, "a parent in an empty list", nil, 25, 1)
}

func TestNewAgeRequiresAnIdInRange(t *testing.T) {
	for _, id := range []int{math.MinInt, -1, 0, 61, 62, math.MaxInt} {
		expectNoNew(t, "an empty list", nil, id, 0)
		expectNoNew(t, "a list", agesOf(10, 0, 20, 10), id, 0)
		expectNoNew(t, "a list", agesOf(10, 0, 20, 10), id, 10)
	}
	for _, id := range []int{1, 60} {
		expectNew(t, "an empty list", nil, id, 0, agesOf(id, 0))
	}
	expectNew(t, "the first Id", agesOf(60, 0), 1, 0, agesOf(1, 0, 60, 0))
	expectNew(t, "the last Id", agesOf(1, 0), 60, 1, agesOf(1, 0, 60, 1))
}

func TestNewAgeAtTheLimit(t *testing.T) {
	for n := range 21 {
		l := chainOf(2, n)
		for _, id := range []int{1, 3, 25, 60} {
			if n < 16 {
				want, _ := afterNew(l, id, 0)
				expectNew(t, "fewer than 16 versions", l, id, 0, want)
			} else {
				expectNoNew(t, "16 versions or more", l, id, 0)
			}
		}
	}
}

func TestNewAgeOfInvalidLists(t *testing.T) {
	for _, l := range invalidAges() {
		for id := -1; id <= 62; id++ {
			for _, from := range []int{-1, 0, 1, 2, 3, id} {
				expectNewAsWorded(t, l, id, from)
			}
		}
	}
	expectNoNew(t, "descending Ids", agesOf(5, 0, 3, 0), 4, 0)
	expectNoNew(t, "equal Ids", agesOf(5, 0, 5, 0), 4, 0)
	expectNoNew(t, "17 versions", chainOf(2, 17), 60, 0)
	// Only the resulting list has to be valid.
	expectNew(t, "the missing parent", agesOf(1, 0, 5, 3), 3, 1, agesOf(1, 0, 3, 1, 5, 3))
	expectNew(t, "the missing root", agesOf(5, 3, 9, 5), 3, 0, agesOf(3, 0, 5, 3, 9, 5))
	expectNoNew(t, "a parent that comes too late", agesOf(1, 0, 3, 5), 5, 1)
}

func TestCutAge(t *testing.T) {
	l := family()
	expectCut(t, "a root with two children", l, 2, agesOf(5, 0, 6, 5, 7, 0, 8, 7, 9, 5, 20, 6, 30, 0))
	expectCut(t, "two children with a parent", l, 5, agesOf(2, 0, 6, 2, 7, 0, 8, 7, 9, 2, 20, 6, 30, 2))
	expectCut(t, "one child with a parent", l, 6, agesOf(2, 0, 5, 2, 7, 0, 8, 7, 9, 5, 20, 5, 30, 2))
	expectCut(t, "a root with one child", l, 7, agesOf(2, 0, 5, 2, 6, 5, 8, 0, 9, 5, 20, 6, 30, 2))
	expectCut(t, "no children", l, 8, agesOf(2, 0, 5, 2, 6, 5, 7, 0, 9, 5, 20, 6, 30, 2))
	expectCut(t, "no children", l, 9, agesOf(2, 0, 5, 2, 6, 5, 7, 0, 8, 7, 20, 6, 30, 2))
	expectCut(t, "no children", l, 20, agesOf(2, 0, 5, 2, 6, 5, 7, 0, 8, 7, 9, 5, 30, 2))
	expectCut(t, "the last one", l, 30, agesOf(2, 0, 5, 2, 6, 5, 7, 0, 8, 7, 9, 5, 20, 6))
	expectCut(t, "the only one", agesOf(7, 0), 7, nil)
	expectCut(t, "one of two roots", agesOf(7, 0, 9, 0), 7, agesOf(9, 0))
	expectCut(t, "the Ids 1 and MaxAge", agesOf(1, 0, 60, 1), 1, agesOf(60, 0))
	expectCut(t, "the Ids 1 and MaxAge", agesOf(1, 0, 60, 1), 60, agesOf(1, 0))
	for _, id := range []int{math.MinInt, -1, 0, 1, 3, 10, 21, 60, 61, math.MaxInt} {
		expectNoCut(t, "an Id that does not exist", l, id)
		expectNoCut(t, "nil", nil, id)
		expectNoCut(t, "an empty list", []impl.Age{}, id)
	}
	expectNoCut(t, "an Id behind the list", l[:4], 8)
}

func TestCutAgeOfAChain(t *testing.T) {
	for n := 1; n <= 16; n++ {
		for i := range n {
			l := chainOf(1, n)
			want := slices.Delete(chainOf(1, n), i, i+1)
			if i+1 < n {
				want[i].From = l[i].From
			}
			expectCut(t, "a version of a chain", l, l[i].Id, want)
		}
	}
}

func TestCutAgeOfInvalidLists(t *testing.T) {
	for what, l := range invalidAges() {
		for id := -2; id <= 62; id++ {
			expectNoCut(t, what, l, id)
		}
		expectNoCut(t, what, l, math.MinInt)
		expectNoCut(t, what, l, math.MaxInt)
	}
}

// ancestors returns for each pair of Ids whether the first is the second or an
// ancestor of it: it joins the steps from parent to child until nothing is new.
func ancestors(l []impl.Age) map[[2]int]bool {
	out := map[[2]int]bool{}
	for _, a := range l {
		out[[2]int{a.Id, a.Id}] = true
		if a.From != 0 {
			out[[2]int{a.From, a.Id}] = true
		}
	}
	for _, via := range l {
		for _, a := range l {
			for _, b := range l {
				if out[[2]int{a.Id, via.Id}] && out[[2]int{via.Id, b.Id}] {
					out[[2]int{a.Id, b.Id}] = true
				}
			}
		}
	}
	return out
}

// expectSameAncestors expects that after is before without the version id, with
// the same ancestors for all others.
func expectSameAncestors(t *testing.T, before, after []impl.Age, id int) {
	t.Helper()
	expectAgesOk(t, "after a cut", after, true)
	if len(after) != len(before)-1 || impl.AgeAt(after, id) != -1 {
		t.Fatalf("CutAge(%v, %d) = %v", before, id, after)
	}
	up := ancestors(before)
	for _, a := range before {
		for _, b := range before {
			there := a.Id != id && b.Id != id
			if got := impl.IsFrom(after, a.Id, b.Id); got != (there && up[[2]int{a.Id, b.Id}]) {
				t.Fatalf("IsFrom(%v, %d, %d) = %v after CutAge(%v, %d)", after, a.Id, b.Id, got, before, id)
			}
		}
	}
	for _, a := range after {
		want := slices.DeleteFunc(impl.PathOf(before, a.Id), func(n int) bool { return n == id })
		expectPath(t, after, a.Id, want...)
	}
}

// TestCutKeepsTheAncestors cuts each version of every forest of up to 7
// versions.
func TestCutKeepsTheAncestors(t *testing.T) {
	ids := []int{1, 4, 5, 17, 33, 59, 60}
	for n := range len(ids) + 1 {
		count := 0
		eachForest(ids[:n], func(l []impl.Age) {
			count++
			expectAgesOk(t, "a forest", l, true)
			for _, a := range l {
				after, ok := impl.CutAge(l, a.Id)
				if !ok {
					t.Fatalf("CutAge(%v, %d) failed", l, a.Id)
				}
				expectSameAncestors(t, l, after, a.Id)
			}
		})
		if want := []int{1, 1, 2, 6, 24, 120, 720, 5040}[n]; count != want {
			t.Fatalf("%d forests of %d versions, want %d", count, n, want)
		}
	}
}

// TestCutInAnyOrderKeepsTheAncestors cuts all versions of a full list, one
// after the other.
func TestCutInAnyOrderKeepsTheAncestors(t *testing.T) {
	wide := agesOf(1, 0, 2, 1, 3, 1, 4, 2, 5, 2, 6, 3, 7, 3, 8, 4, 9, 4, 10, 5, 11, 5, 12, 6, 13, 6, 14, 7, 15, 7, 16, 8)
	for _, full := range [][]impl.Age{chainOf(2, 16), rootsOf(16), wide} {
		for _, stride := range []int{1, 3, 5, 7, 9, 11, 13, 15} {
			for start := range 16 {
				l := full
				for i := range 16 {
					id := full[(start+i*stride)%16].Id
					after, ok := impl.CutAge(l, id)
					if !ok {
						t.Fatalf("CutAge(%v, %d) failed", l, id)
					}
					expectSameAncestors(t, l, after, id)
					l = after
				}
				if len(l) != 0 {
					t.Fatalf("%v is left", l)
				}
			}
		}
	}
}

// TestWalkThroughForests creates and cuts versions: phases in which the list
// grows alternate with phases in which it shrinks.
func TestWalkThroughForests(t *testing.T) {
	var l []impl.Age
	seed := uint32(11)
	next := func(limit int) int {
		seed = seed*1664525 + 1013904223
		return int(seed>>8) % limit
	}
	full, empty, kept := 0, 0, 0
	for step := range 6000 {
		id := next(64) - 1
		if len(l) > 0 && next(2) == 0 {
			id = l[next(len(l))].Id
		}
		expectAsWorded(t, l, id)
		if step/100%2 == next(4)/3 {
			from := 0
			if len(l) > 0 && next(4) > 0 {
				from = l[next(len(l))].Id
			}
			expectNewAsWorded(t, l, id, from)
			after, ok := impl.NewAge(l, id, from)
			if ok {
				expectOlderAncestors(t, l, after, id, from)
			}
			l = after
		} else if after, ok := impl.CutAge(l, id); ok {
			expectSameAncestors(t, l, after, id)
			kept += len(childrenOf(l, id))
			l = after
		}
		if len(l) == impl.MaxAges {
			full++
		}
		if len(l) == 0 {
			empty++
		}
	}
	if full == 0 || empty == 0 || kept < 100 {
		t.Errorf("%d full lists, %d empty ones, %d children kept: the walk is too short", full, empty, kept)
	}
}

// expectOlderAncestors expects that after is before with the version id, whose
// ancestors are those of from, and with the same ancestors for all others.
func expectOlderAncestors(t *testing.T, before, after []impl.Age, id, from int) {
	t.Helper()
	expectAgesOk(t, "after a new version", after, true)
	for _, a := range before {
		expectPath(t, after, a.Id, impl.PathOf(before, a.Id)...)
	}
	expectPath(t, after, id, append([]int{id}, impl.PathOf(before, from)...)...)
}

// TestAgesOfShortLists compares all functions with the chapter's wording for
// every short list of few numbers, valid or not.
func TestAgesOfShortLists(t *testing.T) {
	numbers := []int{-1, 0, 1, 2, 60, 61}
	valid, count := 0, 0
	eachShortList(numbers, func(l []impl.Age) {
		count++
		if validAges(l) {
			valid++
		}
		expectAgesOk(t, "a short list", l, validAges(l))
		for _, id := range numbers {
			expectAgeAt(t, l, id, firstWith(l, id))
			path := wayUp(l, id, len(l)+1)
			expectPath(t, l, id, path...)
			expectKids(t, l, id, childrenOf(l, id)...)
			if want, is := afterCut(l, id); is {
				expectCut(t, "a short list", l, id, want)
			} else {
				expectNoCut(t, "a short list", l, id)
			}
			for _, other := range numbers {
				expectIsFrom(t, l, other, id, slices.Contains(path, other))
				expectNewAsWorded(t, l, id, other)
			}
		}
	})
	if count != 1+36+36*36+36*36*36 || valid != 1+3+3*2+6 {
		t.Errorf("%d lists, %d of them valid", count, valid)
	}
}

// roomyAges returns a copy of l with spare capacity that holds two versions.
func roomyAges(l []impl.Age) []impl.Age {
	return slices.Concat(l, agesOf(50, 3, 51, 50))[:len(l)]
}

// expectWholeAges expects that l, which roomyAges made of old, has not changed,
// its spare capacity included.
func expectWholeAges(t *testing.T, what string, l, old []impl.Age) {
	t.Helper()
	if got := l[:len(l)+2]; !slices.Equal(got, slices.Concat(old, agesOf(50, 3, 51, 50))) {
		t.Errorf("%s: %v, want %v and the spare versions", what, got, old)
	}
}

// fill overwrites all of l with all spare capacity.
func fill[T any](l []T, x T) {
	l = l[:cap(l)]
	for i := range l {
		l[i] = x
	}
}

// ageCalls returns calls of chapter 7 that return lists, successful ones and
// failing ones.
func ageCalls() []func(l []impl.Age) []impl.Age {
	var out []func(l []impl.Age) []impl.Age
	for id := -1; id <= 61; id++ {
		out = append(out, func(l []impl.Age) []impl.Age {
			x, _ := impl.CutAge(l, id)
			return x
		})
		for _, from := range []int{0, 2, 99} {
			out = append(out, func(l []impl.Age) []impl.Age {
				x, _ := impl.NewAge(l, id, from)
				return x
			})
		}
	}
	return out
}

func sharingAges() [][]impl.Age {
	out := [][]impl.Age{nil, agesOf(2, 0), family(), chainOf(2, 15), chainOf(2, 16)}
	for _, l := range invalidAges() {
		out = append(out, l)
	}
	return out
}

func TestAgesShareNoMemory(t *testing.T) {
	for _, old := range sharingAges() {
		for _, call := range ageCalls() {
			l := roomyAges(old)
			out := call(l)
			want := slices.Clone(out)
			expectWholeAges(t, "the argument", l, old)
			fill(l, impl.Age{Id: -7, From: -7})
			if !slices.Equal(out, want) {
				t.Errorf("the result after a change of the argument: %v, want %v", out, want)
			}
			l = roomyAges(old)
			fill(call(l), impl.Age{Id: -7, From: -7})
			expectWholeAges(t, "the argument after a change of the result", l, old)
		}
	}
}

func TestIdsShareNoMemory(t *testing.T) {
	for _, old := range sharingAges() {
		l := roomyAges(old)
		for id := -1; id <= 61; id++ {
			impl.AgesOk(l)
			impl.AgeAt(l, id)
			impl.IsFrom(l, 2, id)
			fill(impl.PathOf(l, id), -7)
			fill(impl.KidsOf(l, id), -7)
			expectWholeAges(t, "the argument", l, old)
			expectPath(t, l, id, wayUp(l, id, len(l)+1)...)
			expectKids(t, l, id, childrenOf(l, id)...)
		}
	}
}
