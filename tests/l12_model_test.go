package tests

import (
	"fmt"
	"math"
	"slices"
	"strings"
	"testing"

	"loop.example/g00467/impl"
)

func mapAs(name string, fixed bool, blocks ...int) impl.Map {
	return impl.Map{Name: name, Fixed: fixed, L: blocks}
}

// someMaps returns a list in order, with a read-only Map, a Map of one block and
// one of MaxSize blocks.
func someMaps() []impl.Map {
	return []impl.Map{mapAs("b", false, 10, 11, 12), mapAs("d", true, 20, 0, 22), mapAs("f", false, 30),
		mapAs("h", false, 1, 2, 3, 4, 5, 6, 7, 8, 9, 10, 11, 65535)}
}

// mapsNamed returns n Maps in order, each of one block.
func mapsNamed(n int) []impl.Map {
	var out []impl.Map
	for i := range n {
		out = append(out, mapAs(string(rune('b'+2*i)), i%2 == 1, i))
	}
	return out
}

// oddMaps returns lists that no sequence of operations makes.
func oddMaps() map[string][]impl.Map {
	out := map[string][]impl.Map{
		"not in order":         {mapAs("h", false, 1), mapAs("b", false, 2, 3), mapAs("d", true, 4), mapAs("c", false, 5, 6)},
		"descending":           {mapAs("h", true, 1), mapAs("f", false, 2), mapAs("d", false, 3), mapAs("b", false, 4)},
		"a name twice":         {mapAs("b", false, 1, 2), mapAs("b", true, 3), mapAs("d", false, 4)},
		"a name twice, fixed":  {mapAs("b", true, 1, 2), mapAs("d", false, 4), mapAs("b", false, 3)},
		"all equal":            {mapAs("b", false, 1), mapAs("b", false, 1), mapAs("b", false, 1)},
		"no block":             {mapAs("b", false), mapAs("d", true), mapAs("f", false, 1)},
		"nil and empty":        {{Name: "b"}, {Name: "d", L: []int{}}},
		"names that are none":  {mapAs("", false, 1), mapAs("B", false, 2), mapAs("b", false, 3), mapAs("ddddddd", false, 4), mapAs("\xff", true, 5)},
		"too many blocks":      {mapAs("b", false, make([]int, 13)...), mapAs("d", true, make([]int, 14)...), mapAs("f", false, 1)},
		"many blocks":          {mapAs("b", false, slices.Repeat([]int{7}, 500)...)},
		"blocks that are none": {mapAs("b", false, -1, 65536, math.MaxInt), mapAs("d", false, math.MinInt)},
	}
	for _, n := range []int{7, 8, 20} {
		out[fmt.Sprint(n, " Maps")] = mapsNamed(n)
	}
	out["7 Maps, not in order"] = slices.Concat(mapsNamed(7)[3:], mapsNamed(3))
	out["7 equal Maps"] = slices.Repeat([]impl.Map{mapAs("b", false, 1)}, 7)
	return out
}

// allMaps returns lists in order and odd ones.
func allMaps() map[string][]impl.Map {
	out := oddMaps()
	out["nil"], out["empty"], out["some Maps"] = nil, []impl.Map{}, someMaps()
	for n := 1; n <= 6; n++ {
		out[fmt.Sprint(n, " Maps")] = mapsNamed(n)
	}
	return out
}

func deepMaps(l []impl.Map) []impl.Map {
	var out []impl.Map
	for _, m := range l {
		out = append(out, mapAs(m.Name, m.Fixed, slices.Clone(m.L)...))
	}
	return out
}

// equalMaps says what SameMaps returns: it goes through all fields.
func equalMaps(a, b []impl.Map) bool {
	same := len(a) == len(b)
	for i := 0; same && i < len(a); i++ {
		same = a[i].Name == b[i].Name && a[i].Fixed == b[i].Fixed && len(a[i].L) == len(b[i].L)
		for blk := 0; same && blk < len(a[i].L); blk++ {
			same = a[i].L[blk] == b[i].L[blk]
		}
	}
	return same
}

// mapsIn says what MapsOf returns, in the words of chapter 12.
func mapsIn(p impl.Pool) []impl.Map {
	var out []impl.Map
	for i, v := range p.Vols {
		m := mapAs(v.Name, v.Fixed)
		for blk := 0; blk < v.Size && blk < 12; blk++ {
			m.L = append(m.L, blockIn(p, i, blk))
		}
		out = append(out, m)
	}
	return out
}

// mapNamed says what MapAt returns.
func mapNamed(l []impl.Map, name string) int {
	return slices.IndexFunc(l, func(m impl.Map) bool { return m.Name == name })
}

// withMap returns l and m, which is inserted before the longest run of greater
// names at the end.
func withMap(l []impl.Map, m impl.Map) ([]impl.Map, int) {
	if len(l) > 5 {
		return l, impl.CoFull
	}
	at := 0
	for slices.ContainsFunc(l[at:], func(x impl.Map) bool { return strings.Compare(x.Name, m.Name) <= 0 }) {
		at++
	}
	return slices.Concat(l[:at], []impl.Map{m}, l[at:]), impl.CoGood
}

// afterMapCreate says what MapCreate returns, in the words of chapters 11 and 12.
func afterMapCreate(l []impl.Map, name string, size int) ([]impl.Map, int) {
	switch {
	case !validName(name):
		return l, impl.CoForm
	case mapNamed(l, name) >= 0:
		return l, impl.CoThere
	case !within(size, 1, 12):
		return l, impl.CoRange
	}
	return withMap(l, mapAs(name, false, make([]int, size)...))
}

// afterMapSnap says what MapSnap returns, in the words of chapters 11 and 12.
func afterMapSnap(l []impl.Map, name, to string, fixed bool) ([]impl.Map, int) {
	at := mapNamed(l, name)
	switch {
	case !validName(name) || !validName(to):
		return l, impl.CoForm
	case at < 0:
		return l, impl.CoNone
	case mapNamed(l, to) >= 0:
		return l, impl.CoThere
	}
	return withMap(l, mapAs(to, fixed, l[at].L...))
}

// afterMapKill says what MapKill returns, in the words of chapters 11 and 12.
func afterMapKill(l []impl.Map, name string) ([]impl.Map, int) {
	at := mapNamed(l, name)
	switch {
	case !validName(name):
		return l, impl.CoForm
	case at < 0:
		return l, impl.CoNone
	}
	return slices.Concat(l[:at], l[at+1:]), impl.CoGood
}

// afterMapWrite says what MapWrite returns, in the words of chapters 11 and 12.
func afterMapWrite(l []impl.Map, name string, blk, n int) ([]impl.Map, int) {
	at := mapNamed(l, name)
	switch {
	case !validName(name):
		return l, impl.CoForm
	case at < 0:
		return l, impl.CoNone
	case l[at].Fixed:
		return l, impl.CoFixed
	case !within(blk, 0, len(l[at].L)-1) || !within(n, 0, 65535):
		return l, impl.CoRange
	}
	out := deepMaps(l)
	out[at].L[blk] = n
	return out, impl.CoGood
}

// afterMapResize says what MapResize returns, in the words of chapters 11 and 12.
func afterMapResize(l []impl.Map, name string, size int) ([]impl.Map, int) {
	at := mapNamed(l, name)
	switch {
	case !validName(name):
		return l, impl.CoForm
	case at < 0:
		return l, impl.CoNone
	case l[at].Fixed:
		return l, impl.CoFixed
	case !within(size, 1, 12):
		return l, impl.CoRange
	}
	out := deepMaps(l)
	for len(out[at].L) < size {
		out[at].L = append(out[at].L, 0)
	}
	out[at].L = out[at].L[:size]
	return out, impl.CoGood
}

// mapCall is a call of chapter 12 with its result in the words of the chapters.
type mapCall struct {
	what string
	call func(l []impl.Map) ([]impl.Map, int)
	want func(l []impl.Map) ([]impl.Map, int)
}

func mapCreateCall(name string, size int) mapCall {
	return mapCall{fmt.Sprintf("MapCreate %q %d", name, size),
		func(l []impl.Map) ([]impl.Map, int) { return impl.MapCreate(l, name, size) },
		func(l []impl.Map) ([]impl.Map, int) { return afterMapCreate(l, name, size) }}
}

func mapSnapCall(name, to string, fixed bool) mapCall {
	return mapCall{fmt.Sprintf("MapSnap %q %q %v", name, to, fixed),
		func(l []impl.Map) ([]impl.Map, int) { return impl.MapSnap(l, name, to, fixed) },
		func(l []impl.Map) ([]impl.Map, int) { return afterMapSnap(l, name, to, fixed) }}
}

func mapKillCall(name string) mapCall {
	return mapCall{fmt.Sprintf("MapKill %q", name),
		func(l []impl.Map) ([]impl.Map, int) { return impl.MapKill(l, name) },
		func(l []impl.Map) ([]impl.Map, int) { return afterMapKill(l, name) }}
}

func mapWriteCall(name string, blk, n int) mapCall {
	return mapCall{fmt.Sprintf("MapWrite %q %d %d", name, blk, n),
		func(l []impl.Map) ([]impl.Map, int) { return impl.MapWrite(l, name, blk, n) },
		func(l []impl.Map) ([]impl.Map, int) { return afterMapWrite(l, name, blk, n) }}
}

func mapResizeCall(name string, size int) mapCall {
	return mapCall{fmt.Sprintf("MapResize %q %d", name, size),
		func(l []impl.Map) ([]impl.Map, int) { return impl.MapResize(l, name, size) },
		func(l []impl.Map) ([]impl.Map, int) { return afterMapResize(l, name, size) }}
}

// someMapCalls returns calls that succeed and calls that fail, for some list of
// allMaps each.
func someMapCalls() []mapCall {
	names := []string{"a", "b", "c", "d", "e", "f", "h", "zzzzzz", "0", "", "B", "ddddddd", "\xff"}
	var out []mapCall
	for _, name := range names {
		out = append(out, mapKillCall(name))
		for _, to := range names {
			out = append(out, mapSnapCall(name, to, false), mapSnapCall(name, to, true))
		}
		for _, n := range append([]int{0, 1, 2, 3, 11, 12, 13, 14, 499, 500, 65535}, farInts...) {
			out = append(out, mapCreateCall(name, n), mapResizeCall(name, n), mapWriteCall(name, n, 77), mapWriteCall(name, 0, n), mapWriteCall(name, n, -1))
		}
	}
	return out
}

func expectMaps(t *testing.T, what string, got, want []impl.Map) {
	t.Helper()
	if !equalMaps(got, want) {
		t.Errorf("%s: %v, want %v", what, got, want)
	}
}

// expectMapCall compares a call with the chapter's wording.
func expectMapCall(t *testing.T, what string, l []impl.Map, c mapCall) {
	t.Helper()
	want, is := c.want(l)
	got, code := c.call(l)
	if code != is || !equalMaps(got, want) {
		t.Fatalf("%s: %s of %v gives %v, %d, want %v, %d", what, c.what, l, got, code, want, is)
	}
}

// expectMade expects the result of a call that succeeds.
func expectMade(t *testing.T, c mapCall, l []impl.Map, want ...impl.Map) {
	t.Helper()
	got, code := c.call(l)
	if code != impl.CoGood || !equalMaps(got, want) {
		t.Errorf("%s of %v gives %v, %d, want %v, 0", c.what, l, got, code, want)
	}
}

// expectRejected expects that a call fails with this code and has no effect.
func expectRejected(t *testing.T, c mapCall, l []impl.Map, want int) {
	t.Helper()
	got, code := c.call(l)
	if code != want || !equalMaps(got, l) {
		t.Errorf("%s of %v gives %v, %d, want the list, %d", c.what, l, got, code, want)
	}
}

func expectSame(t *testing.T, a, b []impl.Map, want bool) {
	t.Helper()
	if got := impl.SameMaps(a, b); got != want || equalMaps(a, b) != want {
		t.Errorf("SameMaps(%v, %v) = %v, want %v", a, b, got, want)
	}
}

func expectMapAt(t *testing.T, what string, l []impl.Map, name string, want int) {
	t.Helper()
	if got := impl.MapAt(l, name); got != want {
		t.Errorf("%s: MapAt(%v, %q) = %d, want %d", what, l, name, got, want)
	}
}

func TestMapsOf(t *testing.T) {
	expectMaps(t, "a new pool", impl.MapsOf(impl.PoolNew()), nil)
	expectMaps(t, "the zero Pool", impl.MapsOf(impl.Pool{}), nil)
	expectMaps(t, "a rich pool", impl.MapsOf(richPool()), []impl.Map{mapAs("a", false, 0, 42, 0, 0), mapAs("b1", true, 100, 65535, 0, 9),
		mapAs("c", false, 100, 0, 7, 0, 0, 0, 0, 0, 0, 0, 0, 77), mapAs("d", false, 31)})
	for what, p := range soundPools(t) {
		expectMaps(t, what, impl.MapsOf(p), mapsIn(p))
		p.Vols = nil
		expectMaps(t, what+" without volumes", impl.MapsOf(p), nil)
	}
	for size := 1; size <= 12; size++ {
		p := created(t, impl.PoolNew(), "vol1", size)
		expectMaps(t, "a new volume", impl.MapsOf(p), []impl.Map{mapAs("vol1", false, make([]int, size)...)})
		for blk := range size {
			want := make([]int, size)
			want[blk] = 500 + blk
			expectMaps(t, "one block written", impl.MapsOf(written(t, p, "vol1", blk, 500+blk)), []impl.Map{mapAs("vol1", false, want...)})
		}
	}
}

// TestMapsOfEachSize gives a volume each size, also sizes that a volume cannot
// have: blocks behind MaxSize do not count.
func TestMapsOfEachSize(t *testing.T) {
	p := lastPool(2)
	for blk := range 16 {
		p.T, _ = impl.TreePut(p.T, refTo(blk, 1, blk, 0))
		p.Cells[blk] = cellAs(0, 1000+blk)
	}
	all := []int{1000, 1001, 1002, 1003, 1004, 1005, 1006, 1007, 1008, 1009, 1010, 1011}
	for size := -20; size <= 20; size++ {
		p.Vols[0].Size = size
		expectMaps(t, "a size", impl.MapsOf(p), []impl.Map{mapAs("z", false, all[:max(0, min(size, 12))]...)})
	}
	for _, size := range farInts {
		p.Vols[0].Size = size
		if size < 0 {
			expectMaps(t, "a negative size", impl.MapsOf(p), []impl.Map{mapAs("z", false)})
		} else {
			expectMaps(t, "a great size", impl.MapsOf(p), []impl.Map{mapAs("z", false, all...)})
		}
	}
}

func TestMapsOfInvalidPools(t *testing.T) {
	for what, f := range spoilers() {
		p := spoiled(f)
		expectMaps(t, what, impl.MapsOf(p), mapsIn(p))
	}
	for _, n := range []int{7, 8, 12} {
		want := mapsIn(volsPool(n))
		if len(want) != n {
			t.Errorf("%d volumes have the Maps %v", n, want)
		}
		expectMaps(t, "too many volumes", impl.MapsOf(volsPool(n)), want)
	}
	p := richPool()
	p.Vols = []impl.Vol{volAs("d", 4, 1), {Name: "A", Age: 7, Size: 2, Fixed: true}, volAs("d", 3, 1)}
	expectMaps(t, "volumes in any order", impl.MapsOf(p), []impl.Map{mapAs("d", false, 31), mapAs("A", true, 100, 65535), mapAs("d", false, 100)})
	p.Vols = p.Vols[:1]
	expectMaps(t, "spare volumes", impl.MapsOf(p), []impl.Map{mapAs("d", false, 31)})
}

func TestSameMaps(t *testing.T) {
	expectSame(t, nil, nil, true)
	expectSame(t, nil, []impl.Map{}, true)
	expectSame(t, []impl.Map{}, nil, true)
	expectSame(t, nil, []impl.Map{{}}, false)
	expectSame(t, []impl.Map{{}}, nil, false)
	expectSame(t, []impl.Map{{Name: "a"}}, []impl.Map{{Name: "a", L: []int{}}}, true)
	expectSame(t, someMaps(), someMaps(), true)
	spare := someMaps()
	for i := range spare {
		spare[i].L = append(spare[i].L, 5)[:len(spare[i].L)]
	}
	expectSame(t, someMaps(), append(spare, mapAs("z", false, 1))[:len(spare)], true)
	for what, l := range allMaps() {
		for other, l2 := range allMaps() {
			expectSame(t, l, l2, what == other || equalMaps(l, l2))
		}
	}
}

// TestSameMapsForEachChange changes one field, one block or one length after the
// other.
func TestSameMapsForEachChange(t *testing.T) {
	changed := func(f func(l []impl.Map)) {
		t.Helper()
		l := someMaps()
		f(l)
		expectSame(t, l, someMaps(), false)
		expectSame(t, someMaps(), l, false)
	}
	for i, m := range someMaps() {
		changed(func(l []impl.Map) { l[i].Name += "0" })
		changed(func(l []impl.Map) { l[i].Name = "" })
		changed(func(l []impl.Map) { l[i].Name = strings.ToUpper(m.Name) })
		changed(func(l []impl.Map) { l[i].Fixed = !m.Fixed })
		changed(func(l []impl.Map) { l[i].L = append(l[i].L, 0) })
		changed(func(l []impl.Map) { l[i].L = l[i].L[:len(m.L)-1] })
		changed(func(l []impl.Map) { l[i].L = nil })
		for blk, n := range m.L {
			changed(func(l []impl.Map) { l[i].L[blk] = n + 1 })
			changed(func(l []impl.Map) { l[i].L[blk] = n - 65536 })
		}
		expectSame(t, someMaps(), slices.Delete(someMaps(), i, i+1), false)
		expectSame(t, slices.Delete(someMaps(), i, i+1), someMaps(), false)
		expectSame(t, someMaps(), slices.Insert(someMaps(), i, m), false)
		for j := range i {
			changed(func(l []impl.Map) { l[i], l[j] = l[j], l[i] })
			changed(func(l []impl.Map) { l[i] = l[j] })
		}
	}
}

// TestSameMapsForEachPairOfShortLists compares all lists of up to two Maps over
// two names, with up to two blocks.
func TestSameMapsForEachPairOfShortLists(t *testing.T) {
	var one []impl.Map
	for _, name := range []string{"a", "b"} {
		for _, fixed := range []bool{false, true} {
			for _, blocks := range [][]int{nil, {0}, {1}, {0, 0}, {0, 1}, {1, 0}} {
				one = append(one, mapAs(name, fixed, blocks...))
			}
		}
	}
	lists := [][]impl.Map{nil}
	for _, a := range one {
		lists = append(lists, []impl.Map{a})
		for _, b := range one {
			lists = append(lists, []impl.Map{a, b})
		}
	}
	for i, a := range lists {
		for j, b := range lists {
			if got := impl.SameMaps(a, b); got != (i == j) {
				t.Fatalf("SameMaps(%v, %v) = %v", a, b, got)
			}
		}
	}
}

func TestMapAt(t *testing.T) {
	for i, m := range someMaps() {
		expectMapAt(t, "a name", someMaps(), m.Name, i)
	}
	for _, name := range append([]string{"a", "c", "b0", "bb", "z", "0", " b"}, badNames...) {
		expectMapAt(t, "no name of a Map", someMaps(), name, -1)
		expectMapAt(t, "no Maps", nil, name, -1)
		expectMapAt(t, "no Maps", []impl.Map{}, name, -1)
	}
	for what, l := range oddMaps() {
		for _, name := range []string{"", "B", "b", "c", "d", "f", "h", "z", "ddddddd", "\xff"} {
			expectMapAt(t, what, l, name, mapNamed(l, name))
		}
	}
	expectMapAt(t, "a name that two Maps have", oddMaps()["a name twice"], "b", 0)
	expectMapAt(t, "a name that the first and the last Map have", oddMaps()["a name twice, fixed"], "b", 0)
	expectMapAt(t, "a name that the last two Maps have", []impl.Map{mapAs("a", true), mapAs("z", true), mapAs("z", false)}, "z", 1)
	expectMapAt(t, "a spare Map", someMaps()[:2], "f", -1)
}

func TestMapCreate(t *testing.T) {
	for size := 1; size <= 12; size++ {
		made := mapAs("vol1", false, make([]int, size)...)
		expectMade(t, mapCreateCall("vol1", size), nil, made)
		expectMade(t, mapCreateCall("vol1", size), []impl.Map{}, made)
		expectMade(t, mapCreateCall("vol1", size), someMaps(), append(someMaps(), made)...)
	}
	for _, c := range []struct {
		name string
		at   int
	}{{"0", 0}, {"a", 0}, {"azzzzz", 0}, {"b0", 1}, {"c", 1}, {"czz", 1}, {"d0", 2}, {"e", 2}, {"ezzzzz", 2}, {"f0", 3}, {"g", 3}, {"h0", 4}, {"i", 4}, {"zzzzzz", 4}} {
		expectMade(t, mapCreateCall(c.name, 2), someMaps(), slices.Insert(someMaps(), c.at, mapAs(c.name, false, 0, 0))...)
		expectMade(t, mapSnapCall("b", c.name, true), someMaps(), slices.Insert(someMaps(), c.at, mapAs(c.name, true, 10, 11, 12))...)
	}
}

// TestMapCreateInAnyOrder creates 6 Maps in every order: the list remains sorted.
func TestMapCreateInAnyOrder(t *testing.T) {
	names := []string{"7", "a", "a7", "ab", "b", "zz"}
	var extend func(l []impl.Map, left []string)
	extend = func(l []impl.Map, left []string) {
		for i, name := range left {
			out, code := impl.MapCreate(l, name, len(left))
			if code != impl.CoGood {
				t.Fatalf("MapCreate(%v, %q, %d) fails with %d", l, name, len(left), code)
			}
			extend(out, slices.Delete(slices.Clone(left), i, i+1))
		}
		if len(left) == 0 {
			for i, m := range l {
				if m.Name != names[i] || m.Fixed {
					t.Errorf("the Maps are %v", l)
				}
			}
			expectRejected(t, mapCreateCall("c", 1), l, impl.CoFull)
		}
	}
	extend(nil, names)
}

func TestMapCreateRefuses(t *testing.T) {
	for _, name := range badNames {
		expectRejected(t, mapCreateCall(name, 4), nil, impl.CoForm)
		expectRejected(t, mapCreateCall(name, 0), someMaps(), impl.CoForm)
		expectRejected(t, mapCreateCall(name, 4), mapsNamed(6), impl.CoForm)
		expectRejected(t, mapCreateCall(name, 4), []impl.Map{mapAs(name, false, 1)}, impl.CoForm)
	}
	for _, m := range someMaps() {
		expectRejected(t, mapCreateCall(m.Name, 4), someMaps(), impl.CoThere)
		expectRejected(t, mapCreateCall(m.Name, 0), someMaps(), impl.CoThere)
		expectRejected(t, mapCreateCall(m.Name, 13), mapsNamed(6), impl.CoThere)
		expectRejected(t, mapCreateCall(m.Name, 4), mapsNamed(20), impl.CoThere)
	}
	for _, size := range append(farInts, 0, 13, 14, 255) {
		expectRejected(t, mapCreateCall("a", size), nil, impl.CoRange)
		expectRejected(t, mapCreateCall("a", size), someMaps(), impl.CoRange)
		expectRejected(t, mapCreateCall("a", size), mapsNamed(6), impl.CoRange)
		expectRejected(t, mapCreateCall("a", size), mapsNamed(7), impl.CoRange)
	}
}

// TestMapsAtTheLimit adds to lists of each length: MaxVols-1 Maps have room for
// one more.
func TestMapsAtTheLimit(t *testing.T) {
	for n := 1; n <= 20; n++ {
		for _, name := range []string{"a", "c", "e", "zzz"} {
			for _, c := range []mapCall{mapCreateCall(name, 1), mapCreateCall(name, 12), mapSnapCall("b", name, false), mapSnapCall("b", name, true)} {
				expectMapCall(t, "a list", mapsNamed(n), c)
				out, code := c.call(mapsNamed(n))
				if n <= 5 && (code != impl.CoGood || len(out) != n+1) || n >= 6 && code != impl.CoFull {
					t.Errorf("%s of %d Maps gives %v, %d", c.what, n, out, code)
				}
			}
		}
		// The other calls have no limit.
		for _, c := range []mapCall{mapKillCall("b"), mapWriteCall("b", 0, 5), mapResizeCall("b", 12)} {
			if out, code := c.call(mapsNamed(n)); code != impl.CoGood {
				t.Errorf("%s of %d Maps gives %v, %d", c.what, n, out, code)
			}
			expectMapCall(t, "a list", mapsNamed(n), c)
		}
	}
}

func TestMapSnap(t *testing.T) {
	for _, m := range someMaps() {
		for _, fixed := range []bool{false, true} {
			expectMade(t, mapSnapCall(m.Name, "0", fixed), someMaps(), slices.Concat([]impl.Map{mapAs("0", fixed, m.L...)}, someMaps())...)
			expectMade(t, mapSnapCall(m.Name, "z", fixed), someMaps(), append(someMaps(), mapAs("z", fixed, m.L...))...)
			expectMade(t, mapSnapCall(m.Name, "e", fixed), someMaps(), slices.Insert(someMaps(), 2, mapAs("e", fixed, m.L...))...)
		}
	}
	for n := range 15 {
		var blocks []int
		for blk := range n {
			blocks = append(blocks, 900-blk)
		}
		m := mapAs("m", false, blocks...)
		expectMade(t, mapSnapCall("m", "n", true), []impl.Map{m}, m, mapAs("n", true, blocks...))
		expectMade(t, mapSnapCall("m", "a", false), []impl.Map{m}, mapAs("a", false, blocks...), m)
	}
}

func TestMapSnapRefuses(t *testing.T) {
	for _, bad := range badNames {
		expectRejected(t, mapSnapCall(bad, "e", false), someMaps(), impl.CoForm)
		expectRejected(t, mapSnapCall("b", bad, false), someMaps(), impl.CoForm)
		expectRejected(t, mapSnapCall("c", bad, true), someMaps(), impl.CoForm)
		expectRejected(t, mapSnapCall(bad, "b", true), someMaps(), impl.CoForm)
		expectRejected(t, mapSnapCall(bad, bad, true), someMaps(), impl.CoForm)
		expectRejected(t, mapSnapCall("b", bad, false), mapsNamed(6), impl.CoForm)
		expectRejected(t, mapSnapCall(bad, "c", false), mapsNamed(6), impl.CoForm)
		expectRejected(t, mapSnapCall(bad, "c", false), []impl.Map{mapAs(bad, false, 1)}, impl.CoForm)
		expectRejected(t, mapSnapCall("b", bad, false), []impl.Map{mapAs("b", false, 1), mapAs(bad, false, 1)}, impl.CoForm)
	}
	for _, name := range []string{"a", "c", "b0", "zzzzzz"} {
		expectRejected(t, mapSnapCall(name, "e", false), nil, impl.CoNone)
		expectRejected(t, mapSnapCall(name, name, false), nil, impl.CoNone)
		expectRejected(t, mapSnapCall(name, "e", true), someMaps(), impl.CoNone)
		expectRejected(t, mapSnapCall(name, "b", true), someMaps(), impl.CoNone)
		expectRejected(t, mapSnapCall(name, "e", true), mapsNamed(6), impl.CoNone)
	}
	for _, m := range someMaps() {
		for _, to := range someMaps() {
			expectRejected(t, mapSnapCall(m.Name, to.Name, false), someMaps(), impl.CoThere)
			expectRejected(t, mapSnapCall(m.Name, to.Name, true), mapsNamed(6), impl.CoThere)
			expectRejected(t, mapSnapCall(m.Name, to.Name, true), mapsNamed(7), impl.CoThere)
		}
	}
}

func TestMapKill(t *testing.T) {
	for i, m := range someMaps() {
		expectMade(t, mapKillCall(m.Name), someMaps(), slices.Delete(someMaps(), i, i+1)...)
	}
	expectMade(t, mapKillCall("a"), []impl.Map{mapAs("a", false, 1)})
	expectMade(t, mapKillCall("a"), []impl.Map{mapAs("a", true, 1)})
	expectMade(t, mapKillCall("b"), oddMaps()["a name twice"], mapAs("b", true, 3), mapAs("d", false, 4))
	expectMade(t, mapKillCall("b"), oddMaps()["a name twice, fixed"], mapAs("d", false, 4), mapAs("b", false, 3))
	for _, name := range badNames {
		expectRejected(t, mapKillCall(name), someMaps(), impl.CoForm)
		expectRejected(t, mapKillCall(name), []impl.Map{mapAs(name, false, 1)}, impl.CoForm)
		expectRejected(t, mapKillCall(name), nil, impl.CoForm)
	}
	for _, name := range []string{"a", "c", "b0", "zzzzzz"} {
		expectRejected(t, mapKillCall(name), someMaps(), impl.CoNone)
		expectRejected(t, mapKillCall(name), nil, impl.CoNone)
		expectRejected(t, mapKillCall(name), []impl.Map{}, impl.CoNone)
	}
}

func TestMapWrite(t *testing.T) {
	for i, m := range someMaps() {
		for blk := range m.L {
			for _, n := range []int{0, 1, 4321, 65535} {
				if m.Fixed {
					expectRejected(t, mapWriteCall(m.Name, blk, n), someMaps(), impl.CoFixed)
					continue
				}
				want := someMaps()
				want[i].L[blk] = n
				expectMade(t, mapWriteCall(m.Name, blk, n), someMaps(), want...)
			}
		}
	}
	for n := range 65536 {
		out, code := impl.MapWrite([]impl.Map{mapAs("a", false, 1, 2)}, "a", 1, n)
		if code != impl.CoGood || !equalMaps(out, []impl.Map{mapAs("a", false, 1, n)}) {
			t.Fatalf("the word %d gives %v, %d", n, out, code)
		}
	}
}

func TestMapWriteRefuses(t *testing.T) {
	for _, name := range badNames {
		expectRejected(t, mapWriteCall(name, 0, 1), someMaps(), impl.CoForm)
		expectRejected(t, mapWriteCall(name, -1, -1), someMaps(), impl.CoForm)
		expectRejected(t, mapWriteCall(name, 0, 1), []impl.Map{mapAs(name, true, 1)}, impl.CoForm)
	}
	for _, name := range []string{"a", "c", "b0", "zzzzzz"} {
		expectRejected(t, mapWriteCall(name, 0, 1), someMaps(), impl.CoNone)
		expectRejected(t, mapWriteCall(name, -1, 65536), someMaps(), impl.CoNone)
		expectRejected(t, mapWriteCall(name, 0, 1), nil, impl.CoNone)
	}
	for _, n := range append(farInts, 0, 3, 12) {
		expectRejected(t, mapWriteCall("d", n, 1), someMaps(), impl.CoFixed)
		expectRejected(t, mapWriteCall("d", 0, n), someMaps(), impl.CoFixed)
		expectRejected(t, mapWriteCall("d", n, -1), someMaps(), impl.CoFixed)
	}
	for _, m := range someMaps() {
		for _, blk := range append(farInts, len(m.L), len(m.L)+1, 15, 16) {
			if !m.Fixed {
				expectRejected(t, mapWriteCall(m.Name, blk, 1), someMaps(), impl.CoRange)
				expectRejected(t, mapWriteCall(m.Name, blk, 65536), someMaps(), impl.CoRange)
			}
		}
		for _, n := range farInts {
			if !m.Fixed {
				expectRejected(t, mapWriteCall(m.Name, len(m.L)-1, n), someMaps(), impl.CoRange)
			}
		}
	}
	expectRejected(t, mapWriteCall("b", 0, 1), oddMaps()["no block"], impl.CoRange)
	expectRejected(t, mapWriteCall("d", 0, 1), oddMaps()["no block"], impl.CoFixed)
}

// TestMapResize gives lists of blocks of each length each size.
func TestMapResize(t *testing.T) {
	for n := range 16 {
		var blocks []int
		for blk := range n {
			blocks = append(blocks, 700+blk)
		}
		l := []impl.Map{mapAs("a", true, 1, 2), mapAs("b", false, blocks...), mapAs("c", false, 3)}
		for size := 1; size <= 12; size++ {
			want := make([]int, size)
			for blk := range min(n, size) {
				want[blk] = 700 + blk
			}
			expectMade(t, mapResizeCall("b", size), l, mapAs("a", true, 1, 2), mapAs("b", false, want...), mapAs("c", false, 3))
			expectRejected(t, mapResizeCall("a", size), l, impl.CoFixed)
		}
	}
}

// TestMapResizeTwice makes a list of blocks smaller and then larger: a block is 0
// when it was cut off.
func TestMapResizeTwice(t *testing.T) {
	for first := 1; first <= 12; first++ {
		for second := 1; second <= 12; second++ {
			cut, _ := impl.MapResize(someMaps(), "h", first)
			want := someMaps()
			want[3].L = make([]int, second)
			copy(want[3].L, someMaps()[3].L[:first])
			expectMade(t, mapResizeCall("h", second), cut, want...)
		}
	}
}

func TestMapResizeRefuses(t *testing.T) {
	for _, name := range badNames {
		expectRejected(t, mapResizeCall(name, 4), someMaps(), impl.CoForm)
		expectRejected(t, mapResizeCall(name, 0), someMaps(), impl.CoForm)
		expectRejected(t, mapResizeCall(name, 1), []impl.Map{mapAs(name, true, 1)}, impl.CoForm)
	}
	for _, name := range []string{"a", "c", "b0", "zzzzzz"} {
		expectRejected(t, mapResizeCall(name, 4), someMaps(), impl.CoNone)
		expectRejected(t, mapResizeCall(name, 13), someMaps(), impl.CoNone)
		expectRejected(t, mapResizeCall(name, 1), nil, impl.CoNone)
	}
	for _, size := range append(farInts, 0, 1, 3, 12, 13) {
		expectRejected(t, mapResizeCall("d", size), someMaps(), impl.CoFixed)
	}
	for _, size := range append(farInts, 0, 13, 14, 16, 255) {
		for _, name := range []string{"b", "f", "h"} {
			expectRejected(t, mapResizeCall(name, size), someMaps(), impl.CoRange)
		}
		expectRejected(t, mapResizeCall("b", size), oddMaps()["no block"], impl.CoRange)
		expectRejected(t, mapResizeCall("b", size), oddMaps()["too many blocks"], impl.CoRange)
	}
}

// TestReadOnlyMaps covers what may be done with a read-only Map: it can be killed
// and be the origin of a snapshot, which may be writable, but not be changed.
func TestReadOnlyMaps(t *testing.T) {
	origin := mapAs("m", true, 5, 0, 7)
	l := []impl.Map{origin}
	for blk := -1; blk <= 3; blk++ {
		for _, n := range []int{-1, 0, 5, 65535, 65536} {
			expectRejected(t, mapWriteCall("m", blk, n), l, impl.CoFixed)
		}
	}
	for size := 0; size <= 13; size++ {
		expectRejected(t, mapResizeCall("m", size), l, impl.CoFixed)
	}
	expectMade(t, mapKillCall("m"), l)
	both, code := impl.MapSnap(l, "m", "n", true)
	expectMaps(t, "a read-only snapshot", both, []impl.Map{origin, mapAs("n", true, 5, 0, 7)})
	expectRejected(t, mapWriteCall("n", 0, 1), both, impl.CoFixed)
	expectRejected(t, mapResizeCall("n", 2), both, impl.CoFixed)
	expectRejected(t, mapWriteCall("m", 0, 1), both, impl.CoFixed)
	expectMade(t, mapKillCall("m"), both, mapAs("n", true, 5, 0, 7))
	expectMade(t, mapKillCall("n"), both, origin)
	free, code2 := impl.MapSnap(both, "n", "k", false)
	expectMaps(t, "a writable snapshot", free, []impl.Map{mapAs("k", false, 5, 0, 7), origin, mapAs("n", true, 5, 0, 7)})
	expectMade(t, mapWriteCall("k", 0, 1), free, mapAs("k", false, 1, 0, 7), origin, mapAs("n", true, 5, 0, 7))
	expectMade(t, mapResizeCall("k", 1), free, mapAs("k", false, 5), origin, mapAs("n", true, 5, 0, 7))
	if code != impl.CoGood || code2 != impl.CoGood {
		t.Errorf("snapshots of a read-only Map give %d and %d", code, code2)
	}
	// A name is free again when its read-only Map was killed.
	none, _ := impl.MapKill(l, "m")
	expectMade(t, mapCreateCall("m", 2), none, mapAs("m", false, 0, 0))
}

// TestTheFirstOfTwoEqualNamesCounts covers lists that have a name twice.
func TestTheFirstOfTwoEqualNamesCounts(t *testing.T) {
	l := oddMaps()["a name twice"]
	expectMade(t, mapWriteCall("b", 1, 9), l, mapAs("b", false, 1, 9), l[1], l[2])
	expectMade(t, mapResizeCall("b", 3), l, mapAs("b", false, 1, 2, 0), l[1], l[2])
	expectMade(t, mapSnapCall("b", "c", true), l, l[0], l[1], mapAs("c", true, 1, 2), l[2])
	l = oddMaps()["a name twice, fixed"]
	expectRejected(t, mapWriteCall("b", 0, 9), l, impl.CoFixed)
	expectRejected(t, mapResizeCall("b", 1), l, impl.CoFixed)
	expectMade(t, mapSnapCall("b", "c", false), l, l[0], l[1], l[2], mapAs("c", false, 1, 2))
}

// TestMapsNotInOrder expects a new Map behind the last name that is not greater.
func TestMapsNotInOrder(t *testing.T) {
	l := oddMaps()["not in order"] // h, b, d, c
	for _, c := range []struct {
		name string
		at   int
	}{{"a", 0}, {"b0", 2}, {"bz", 2}, {"c0", 4}, {"e", 4}, {"i", 4}} {
		expectMade(t, mapCreateCall(c.name, 1), l, slices.Insert(slices.Clone(l), c.at, mapAs(c.name, false, 0))...)
		expectMade(t, mapSnapCall("d", c.name, false), l, slices.Insert(slices.Clone(l), c.at, mapAs(c.name, false, 4))...)
	}
}

// TestMapCallsAsWorded compares all calls with the chapter's wording, for lists
// of all kinds.
func TestMapCallsAsWorded(t *testing.T) {
	for what, l := range allMaps() {
		for _, c := range someMapCalls() {
			expectMapCall(t, what, l, c)
		}
	}
}

// TestMapCallsForEachShortList goes through the lists of up to four Maps over
// three names, in any order, read-only or not.
func TestMapCallsForEachShortList(t *testing.T) {
	var calls []mapCall
	for _, name := range []string{"a", "b", "c", "d", "e"} {
		calls = append(calls, mapCreateCall(name, 2), mapKillCall(name), mapWriteCall(name, 1, 9), mapResizeCall(name, 1), mapResizeCall(name, 3),
			mapSnapCall(name, "c", true), mapSnapCall(name, "d", false), mapSnapCall("b", name, false))
	}
	var extend func(l []impl.Map)
	extend = func(l []impl.Map) {
		for _, c := range calls {
			expectMapCall(t, "a short list", l, c)
		}
		for i := 0; i < 6 && len(l) < 4; i++ {
			m := mapAs([]string{"b", "d", "e"}[i/2], i%2 == 1, 10*len(l), 10*len(l)+1)
			extend(append(slices.Clone(l), m))
		}
	}
	extend(nil)
}

// roomyMaps returns a copy of l; the list and its block lists have spare capacity
// that holds something.
func roomyMaps(l []impl.Map) []impl.Map {
	out := append(deepMaps(l), mapAs("y", true, 5), mapAs("z", false, 6))
	for i, m := range out {
		out[i].L = append(slices.Clone(m.L), 71, 72, 73)[:len(m.L)]
	}
	return out[:len(l)]
}

// expectWholeMaps expects that l, which roomyMaps made of old, has not changed,
// the spare capacity included.
func expectWholeMaps(t *testing.T, what string, l, old []impl.Map) {
	t.Helper()
	got := slices.Clone(l[:len(l)+2])
	for i, m := range got {
		got[i].L = m.L[:len(m.L)+3]
	}
	want := append(deepMaps(old), mapAs("y", true, 5), mapAs("z", false, 6))
	for i, m := range want {
		want[i].L = append(slices.Clone(m.L), 71, 72, 73)
	}
	expectMaps(t, what, got, want)
}

// scratchMaps overwrites all of l with all spare capacity.
func scratchMaps(l []impl.Map) {
	for _, m := range l[:cap(l)] {
		fill(m.L, -7)
	}
	fill(l, mapAs("?", true, -7))
}

func TestMapsShareNoMemory(t *testing.T) {
	for what, old := range allMaps() {
		for _, c := range someMapCalls() {
			l := roomyMaps(old)
			out, code := c.call(l)
			want, is := c.want(old)
			if want = deepMaps(want); code != is || !equalMaps(out, want) {
				t.Errorf("%s of %v with spare capacity gives %v, %d, want %v, %d", c.what, old, out, code, want, is)
			}
			expectWholeMaps(t, what+", "+c.what, l, old)
			other, _ := c.call(l)
			scratchMaps(other)
			expectWholeMaps(t, c.what+", the argument after a change of another result", l, old)
			expectMaps(t, c.what+", the result after a change of another result", out, want)
			scratchMaps(l)
			expectMaps(t, c.what+", the result after a change of the argument", out, want)
		}
	}
}

// TestBlockListsShareNoMemory changes the block list of one Map after the other:
// those of a snapshot and of its origin are different.
func TestBlockListsShareNoMemory(t *testing.T) {
	expectApart := func(what string, out []impl.Map) {
		t.Helper()
		want := deepMaps(out)
		for i := range out {
			fill(out[i].L, -7)
			fill(want[i].L, -7)
			expectMaps(t, what+", after a change of one block list", out, want)
		}
	}
	for what, old := range allMaps() {
		for _, c := range someMapCalls() {
			out, _ := c.call(roomyMaps(old))
			expectApart(what+", "+c.what, out)
		}
	}
	one := []int{1, 2, 3}
	for _, c := range someMapCalls() {
		out, _ := c.call([]impl.Map{mapAs("b", false, one...), mapAs("d", false, one...), mapAs("f", true, one[:2]...)})
		expectApart("one block list thrice, "+c.what, out)
	}
	for _, p := range somePools(t) {
		expectApart("MapsOf", impl.MapsOf(p))
	}
}

func TestMapsOfPoolsShareNoMemory(t *testing.T) {
	for _, old := range somePools(t) {
		p := roomyPool(old)
		out := impl.MapsOf(p)
		want := deepMaps(out)
		expectWholePool(t, "MapsOf", p, old)
		scratchMaps(impl.MapsOf(p))
		expectWholePool(t, "the pool after a change of its Maps", p, old)
		scratchPool(p)
		expectMaps(t, "the Maps after a change of the pool", out, want)
	}
}

func TestMapLookupChangesNoArgument(t *testing.T) {
	for what, old := range allMaps() {
		l := roomyMaps(old)
		for _, name := range []string{"b", "d", "y", "z", "", "?"} {
			expectMapAt(t, what, l, name, mapNamed(old, name))
		}
		if !impl.SameMaps(l, old) || !impl.SameMaps(old, l) || impl.SameMaps(l, l[:len(l)+1]) {
			t.Errorf("%s: SameMaps reads the spare capacity", what)
		}
		expectWholeMaps(t, what, l, old)
	}
}

// paired is an operation of chapter 11 and what corresponds to it in chapter 12.
type paired struct {
	pool change
	maps mapCall
}

func createPair(name string, size int) paired {
	return paired{createChange(name, size), mapCreateCall(name, size)}
}

func snapPair(name, to string, fixed bool) paired {
	return paired{snapChange(name, to, fixed), mapSnapCall(name, to, fixed)}
}

func killPair(name string) paired { return paired{killChange(name), mapKillCall(name)} }

func writePair(name string, blk, n int) paired {
	return paired{writeChange(name, blk, n), mapWriteCall(name, blk, n)}
}

func discardPair(name string, blk int) paired {
	return paired{discardChange(name, blk), mapWriteCall(name, blk, 0)}
}

func resizePair(name string, size int) paired {
	return paired{resizeChange(name, size), mapResizeCall(name, size)}
}

// nearlyFull reports whether p can be short of something: a snapshot needs two
// versions, and a Resize up to 11 keys.
func nearlyFull(p impl.Pool) bool {
	return len(p.Ages) >= 15 || p.Next >= 60 || impl.UsedCells(p.Cells) == 24 || len(impl.TreeKeys(p.T)) >= 50
}

// expectSameEffect performs an operation on a pool and on its Maps. It expects
// the same code and the same Maps, unless the pool is exhausted, and returns the
// new pool and the code of each.
func expectSameEffect(t *testing.T, p impl.Pool, o paired) (impl.Pool, int, int) {
	t.Helper()
	before := impl.MapsOf(p)
	out, code := o.pool.call(p)
	want, is := o.maps.call(before)
	after := impl.MapsOf(out)
	if code == impl.CoFull && is == impl.CoGood && nearlyFull(p) {
		want = before
	} else if code != is {
		t.Fatalf("%s of %v gives %d, %s of %v gives %d", o.pool.what, p, code, o.maps.what, before, is)
	}
	if !impl.SameMaps(after, want) || !equalMaps(after, want) {
		t.Fatalf("%s of %v gives the Maps %v, %s gives %v", o.pool.what, p, after, o.maps.what, want)
	}
	return out, code, is
}

// TestEachShortSequenceHasTheEffectOfTheModel performs each sequence of five
// operations on two volumes.
func TestEachShortSequenceHasTheEffectOfTheModel(t *testing.T) {
	all := []paired{
		createPair("a", 2), createPair("b", 1), snapPair("a", "b", false), snapPair("a", "b", true), snapPair("b", "a", true), killPair("a"), killPair("b"),
		writePair("a", 0, 5), writePair("b", 1, 6), discardPair("a", 0), discardPair("b", 1), resizePair("a", 1), resizePair("b", 3),
	}
	counts := map[string]int{}
	var extend func(p impl.Pool, left int)
	extend = func(p impl.Pool, left int) {
		if left == 0 {
			return
		}
		for _, o := range all {
			out, code, _ := expectSameEffect(t, p, o)
			counts[fmt.Sprint(strings.Fields(o.pool.what)[0], " ", code)]++
			extend(out, left-1)
		}
	}
	extend(written(t, created(t, impl.PoolNew(), "a", 2), "a", 1, 7), 5)
	for _, what := range []string{"Create 0", "Create 3", "Snap 0", "Snap 2", "Snap 3", "Kill 0", "Kill 2", "Write 0", "Write 2", "Write 4", "Write 5", "Discard 0", "Discard 2", "Discard 4", "Discard 5", "Resize 0", "Resize 2", "Resize 5"} {
		if counts[what] < 10 {
			t.Errorf("the sequences are too short: %v", counts)
		}
	}
}

// TestWalksHaveTheEffectOfTheModel performs operations of all kinds, valid and
// invalid. The Maps go their own way beside the pool, from one operation to the
// next.
func TestWalksHaveTheEffectOfTheModel(t *testing.T) {
	seed := uint32(1212)
	next := func(limit int) int {
		seed = seed*1664525 + 1013904223
		return int(seed>>8) % limit
	}
	names := []string{"a", "b", "b1", "c", "d", "f", "z", "0"}
	name := func() string {
		if next(30) == 0 {
			return badNames[next(8)]
		}
		return names[next(len(names))]
	}
	sound := soundPools(t)
	starts := append(sortedNames(sound), slices.Repeat([]string{"a new pool"}, 12)...)
	codes := map[string]int{}
	for walk := range 8 * len(starts) {
		p := wide(sound[starts[walk%len(starts)]])
		l := impl.MapsOf(p)
		for range 60 {
			o := writePair(name(), next(14)-1, next(65600)-20)
			switch next(20) {
			case 0, 1, 2:
				o = createPair(name(), next(14))
			case 3, 4, 5, 6:
				o = snapPair(name(), name(), next(2) == 1)
			case 7, 8, 9:
				o = discardPair(name(), next(14)-1)
			case 10, 11:
				o = resizePair(name(), next(14))
			case 12, 13:
				o = killPair(name())
			}
			out, code, is := expectSameEffect(t, p, o)
			if code == impl.CoGood {
				l, _ = o.maps.call(l)
			}
			expectMaps(t, "the walk", impl.MapsOf(out), l)
			codes[fmt.Sprint(strings.Fields(o.pool.what)[0], " ", code, is)]++
			p = out
		}
	}
	for _, what := range []string{"Create 0 0", "Create 1 1", "Create 3 3", "Create 4 4", "Create 6 0", "Create 6 6", "Snap 0 0", "Snap 1 1", "Snap 2 2", "Snap 3 3", "Snap 6 0", "Snap 6 6", "Kill 0 0", "Kill 1 1", "Kill 2 2",
		"Write 0 0", "Write 1 1", "Write 2 2", "Write 4 4", "Write 5 5", "Write 6 0", "Discard 0 0", "Discard 1 1", "Discard 2 2", "Discard 4 4", "Discard 5 5", "Discard 6 0", "Resize 0 0", "Resize 1 1", "Resize 2 2", "Resize 4 4", "Resize 5 5", "Resize 6 0"} {
		if codes[what] < 5 {
			t.Errorf("the walk is too short for %s: %v", what, codes)
		}
	}
}

// TestEachOperationHasTheEffectOfTheModel performs single operations with all
// kinds of numbers on pools at all limits.
func TestEachOperationHasTheEffectOfTheModel(t *testing.T) {
	for _, start := range soundPools(t) {
		p := wide(start)
		for _, name := range []string{"a", "b", "b1", "d", "f", "v", "z", "0", "", "A"} {
			expectSameEffect(t, p, killPair(name))
			for _, to := range []string{"a", "b", "e", "zz", "", "A"} {
				expectSameEffect(t, p, snapPair(name, to, false))
				expectSameEffect(t, p, snapPair(name, to, true))
			}
			for _, n := range []int{math.MinInt, -1, 0, 1, 2, 5, 11, 12, 13, 65535, 65536, math.MaxInt} {
				expectSameEffect(t, p, createPair(name, n))
				expectSameEffect(t, p, writePair(name, n, 3))
				expectSameEffect(t, p, writePair(name, 1, n))
				expectSameEffect(t, p, discardPair(name, n))
				expectSameEffect(t, p, resizePair(name, n))
			}
		}
	}
}

// TestASnapshotHasTheContentsOfItsOrigin takes a snapshot of each volume and then
// writes, discards and resizes one of the two.
func TestASnapshotHasTheContentsOfItsOrigin(t *testing.T) {
	for _, v := range richPool().Vols {
		for _, fixed := range []bool{false, true} {
			p := snapped(t, richPool(), v.Name, "e", fixed)
			l := impl.MapsOf(p)
			origin, snap := impl.MapAt(l, v.Name), impl.MapAt(l, "e")
			if !slices.Equal(l[origin].L, l[snap].L) || l[origin].Fixed != v.Fixed || l[snap].Fixed != fixed {
				t.Errorf("a snapshot of %q: %v", v.Name, l)
			}
			for _, name := range []string{v.Name, "e"} {
				other := origin + snap - impl.MapAt(l, name)
				for blk := range v.Size {
					for _, o := range []paired{writePair(name, blk, 777), discardPair(name, blk), resizePair(name, blk+1), killPair(name)} {
						out, _, _ := expectSameEffect(t, p, o)
						after := impl.MapsOf(out)
						kept := after[impl.MapAt(after, l[other].Name)]
						expectMaps(t, o.pool.what+", the other volume", []impl.Map{kept}, l[other:other+1])
					}
				}
			}
		}
	}
}
