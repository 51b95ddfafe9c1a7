package tests

import (
	"fmt"
	"math"
	"slices"
	"strings"
	"testing"

	"loop.example/g00467/impl"
)

// poolWith returns a pool with these versions, volumes and keys. A cell that a
// key refers to holds 100 and its own number.
func poolWith(t *testing.T, ages []impl.Age, vols []impl.Vol, keys ...impl.Key) impl.Pool {
	t.Helper()
	p := impl.Pool{T: grown(t, keys...), Ages: ages, Cells: mixedCells(0), Vols: vols, Next: 61}
	for _, k := range liveTreeKeys(p.T) {
		if k.Kind == impl.KData {
			p.Cells[k.Cell] = cellAs(k.Gen, 100+k.Cell)
		}
	}
	return p
}

// sawtooth returns a valid pool. The versions 1 to 5 are a chain, of which 5 has
// the volume a, of 8 blocks; 6 is a child of 2 and has the volume b, of 3
// blocks; 7, 8 and 9, a child of 8, have none.
func sawtooth(t *testing.T, keys ...impl.Key) impl.Pool {
	t.Helper()
	ages := agesOf(1, 0, 2, 1, 3, 2, 4, 3, 5, 4, 6, 2, 7, 2, 8, 0, 9, 8)
	return poolWith(t, ages, []impl.Vol{volAs("a", 5, 8), {Name: "b", Age: 6, Size: 3, Fixed: true}}, keys...)
}

// calm returns a sawtooth of which nothing can be pruned but the keys.
func calm(t *testing.T, keys ...impl.Key) impl.Pool {
	t.Helper()
	p := sawtooth(t, keys...)
	p.Ages = agesOf(2, 0, 5, 2, 6, 2)
	return p
}

// familyPool returns a valid pool: a has been written, then come a snapshot b of
// a, a snapshot c of b and a snapshot d of c, each written once.
func familyPool(t *testing.T) impl.Pool {
	t.Helper()
	p := created(t, impl.PoolNew(), "a", 6)
	for blk := range 5 {
		p = written(t, p, "a", blk, 10+blk)
	}
	for i, name := range []string{"a", "b", "c"} {
		to := []string{"b", "c", "d"}[i]
		p = written(t, snapped(t, p, name, to, false), to, i+1, 100*(i+1))
	}
	return p
}

// seenBySome says what SeenByAny returns, in the words of chapter 13.
func seenBySome(p impl.Pool, k impl.Key) bool {
	keys := liveTreeKeys(p.T)
	return slices.ContainsFunc(p.Vols, func(v impl.Vol) bool {
		seen, ok := greatestOn(keys, wayUp(p.Ages, v.Age, len(p.Ages)+1), k.Blk)
		return ok && seen.Age == k.Age && k.Blk < v.Size
	})
}

// applies says whether a step applies to the key or version with index i of a
// valid pool, in the words of chapter 13.
func applies(p impl.Pool, keys []impl.Key, step, i int) bool {
	idle := func(id int) bool {
		return !slices.ContainsFunc(p.Vols, func(v impl.Vol) bool { return v.Age == id })
	}
	if step == impl.StAge {
		id := p.Ages[i].Id
		has := slices.ContainsFunc(keys, func(k impl.Key) bool { return k.Age == id })
		return idle(id) && len(childrenOf(p.Ages, id)) < 2 && !has
	}
	k, kids := keys[i], childrenOf(p.Ages, keys[i].Age)
	switch step {
	case impl.StUnseen:
		return !seenBySome(p, k)
	case impl.StGone:
		_, has := greatestOn(keys, wayUp(p.Ages, k.Age, 99)[1:], k.Blk)
		return k.Kind == impl.KGone && !has
	}
	if len(kids) != 1 || !idle(k.Age) {
		return false
	}
	_, taken := keyAt(keys, k.Blk, kids[0])
	return !taken
}

// firstStep says what NextStep returns, in the words of chapter 13.
func firstStep(p impl.Pool) (int, int) {
	if !validPool(p) {
		return impl.StNone, 0
	}
	keys := liveTreeKeys(p.T)
	for step, n := range []int{0, len(keys), len(keys), len(keys), len(p.Ages)} {
		for i := range n {
			if applies(p, keys, step, i) {
				return step, i
			}
		}
	}
	return impl.StNone, 0
}

// afterStep says what PruneStep returns, in the words of chapter 13.
func afterStep(p impl.Pool) (impl.Pool, bool) {
	step, i := firstStep(p)
	out, ok, ok2 := deepPool(p), step != impl.StNone, true
	if step == impl.StAge {
		out.Ages, ok = afterCut(p.Ages, p.Ages[i].Id)
	} else if ok {
		k := liveTreeKeys(p.T)[i]
		out.T, ok = treeAfterPut(p.T, noneKey(k.Blk, k.Age))
		if step == impl.StMove {
			k.Age = childrenOf(p.Ages, k.Age)[0]
			out.T, ok2 = treeAfterPut(out.T, k)
		} else if k.Kind == impl.KData {
			out.Cells = afterFree(p.Cells, k.Cell)
		}
	}
	if !ok || !ok2 || !validPool(out) {
		return p, false
	}
	return out, true
}

// afterAllSteps says what PruneAll returns, and the number of steps.
func afterAllSteps(p impl.Pool) (impl.Pool, int) {
	for n := range 1000 {
		out, ok := afterStep(p)
		if !ok {
			return p, n
		}
		p = out
	}
	return p, 1000
}

func expectSeenByAny(t *testing.T, what string, p impl.Pool, k impl.Key, want bool) {
	t.Helper()
	if got := impl.SeenByAny(p, k); got != want || seenBySome(p, k) != want {
		t.Errorf("%s: SeenByAny(%v, %v) = %v, want %v", what, p, k, got, want)
	}
}

func expectStep(t *testing.T, what string, p impl.Pool, step, i int) {
	t.Helper()
	want, at := firstStep(p)
	if got, j := impl.NextStep(p); got != step || j != i || want != step || at != i {
		t.Errorf("%s: NextStep(%v) = %d, %d, want %d, %d", what, p, got, j, step, i)
	}
}

// expectPruned expects what one step makes of p.
func expectPruned(t *testing.T, what string, p, want impl.Pool) {
	t.Helper()
	got, ok := impl.PruneStep(p)
	if !ok || !samePool(got, want) {
		t.Errorf("%s: PruneStep(%v) = %v, %v, want %v, true", what, p, got, ok, want)
	}
	expectPoolOk(t, what, got, true)
}

// expectNothingLeft expects that no step applies to p, valid or not.
func expectNothingLeft(t *testing.T, what string, p impl.Pool) {
	t.Helper()
	expectStep(t, what, p, impl.StNone, 0)
	if got, ok := impl.PruneStep(p); ok || !samePool(got, p) {
		t.Errorf("%s: PruneStep(%v) = %v, %v, want the pool, false", what, p, got, ok)
	}
	expectPool(t, what+", PruneAll", impl.PruneAll(p), p)
}

// expectHarmless performs one step on a valid pool. It compares the step with
// the chapter's wording and the contents of all volumes with those before.
func expectHarmless(t *testing.T, what string, p impl.Pool) (impl.Pool, int) {
	t.Helper()
	step, i := impl.NextStep(p)
	got, ok := impl.PruneStep(p)
	wantStep, at := firstStep(p)
	want, is := afterStep(p)
	if step != wantStep || i != at || ok != is || ok != (step != impl.StNone) || !samePool(got, want) {
		t.Fatalf("%s: the step %d, %d of %v gives %v, %v, want %d, %d, %v, %v", what, step, i, p, got, ok, wantStep, at, want, is)
	}
	if !validPool(got) || !impl.PoolOk(got) {
		t.Fatalf("%s: the step %d, %d of %v gives %v, which is not valid", what, step, i, p, got)
	}
	if !equalMaps(mapsIn(got), mapsIn(p)) || !impl.SameMaps(impl.MapsOf(got), impl.MapsOf(p)) || !slices.Equal(got.Vols, p.Vols) || got.Next != p.Next {
		t.Fatalf("%s: the step %d, %d of %v gives %v: the contents are %v, want %v", what, step, i, p, got, mapsIn(got), mapsIn(p))
	}
	if usedIn(got.Cells) > usedIn(p.Cells) || usedIn(got.Cells) < usedIn(p.Cells)-1 {
		t.Fatalf("%s: the step %d, %d of %v leaves %v", what, step, i, p, got.Cells)
	}
	return got, step
}

// expectLean expects the properties that chapter 13 states of a pool after
// PruneAll.
func expectLean(t *testing.T, what string, p impl.Pool) {
	t.Helper()
	seen := 0
	for _, k := range liveTreeKeys(p.T) {
		if !seenBySome(p, k) {
			t.Fatalf("%s: no volume of %v sees %v", what, p, k)
		}
		if impl.Idle(p, k.Age) && len(childrenOf(p.Ages, k.Age)) < 2 {
			t.Fatalf("%s: %v belongs to an idle version of %v", what, k, p)
		}
		if k.Kind == impl.KData {
			seen++
		}
	}
	if usedIn(p.Cells) != seen {
		t.Fatalf("%s: %d cells of %v are used, %d keys are seen", what, usedIn(p.Cells), p, seen)
	}
}

// expectHarmlessToTheEnd performs all steps on a valid pool, each compared, and
// counts them.
func expectHarmlessToTheEnd(t *testing.T, what string, start impl.Pool, counts map[int]int) impl.Pool {
	t.Helper()
	p, steps, spent := start, 0, map[int]int{}
	for {
		out, step := expectHarmless(t, what, p)
		if step == impl.StNone {
			break
		}
		p, steps = out, steps+1
		spent[step]++
		counts[step]++
	}
	if n := len(liveTreeKeys(start.T)) * (len(start.Ages) + 1); steps > n+len(start.Ages) || spent[impl.StAge] > len(start.Ages) {
		t.Fatalf("%s: %v takes %v steps", what, start, spent)
	}
	expectLean(t, what, p)
	if all := impl.PruneAll(start); !samePool(all, p) {
		t.Fatalf("%s: PruneAll(%v) = %v, want %v", what, start, all, p)
	}
	if again := impl.PruneAll(p); !samePool(again, p) {
		t.Fatalf("%s: PruneAll(%v) = %v", what, p, again)
	}
	return p
}

func TestStepConstants(t *testing.T) {
	got := []int{impl.StNone, impl.StUnseen, impl.StGone, impl.StMove, impl.StAge}
	if !slices.Equal(got, []int{0, 1, 2, 3, 4}) {
		t.Errorf("the steps are %v", got)
	}
}

func TestSeenByAny(t *testing.T) {
	for _, c := range []struct {
		what     string
		blk, age int
		want     bool
	}{
		{"inherited by one volume, hidden from the other", 0, 1, true},
		{"the volume's own", 0, 4, true},
		{"KGone", 0, 6, true},
		{"inherited by one volume alone", 1, 2, true},
		{"behind the only volume that would see it", 1, 4, false},
		{"the own one of the volume that hides another", 1, 6, true},
		{"in the last volume but one", 2, 3, true},
		{"KGone that all but one inherit", 3, 1, true},
		{"in a read-only volume", 3, 7, true},
		{"deleted", 4, 10, false},
		{"behind both volumes that would see it", 5, 2, false},
		{"the last block", 11, 3, true},
		{"no mapping of the version", 2, 1, false},
		{"no mapping of the block", 9, 3, false},
		{"a version without a volume below", 0, 9, false},
	} {
		expectSeenByAny(t, c.what, richPool(), impl.Key{Blk: c.blk, Age: c.age}, c.want)
	}
}

// TestSeenByAnyForEachSize gives the one or two volumes that inherit a mapping
// each size.
func TestSeenByAnyForEachSize(t *testing.T) {
	for blk := range 16 {
		one := poolWith(t, agesOf(1, 0, 2, 1), []impl.Vol{volAs("a", 2, 1)}, refTo(blk, 1, 4, 0))
		two := poolWith(t, agesOf(1, 0, 2, 1, 3, 1), []impl.Vol{volAs("a", 2, 1), volAs("b", 3, 1)}, refTo(blk, 1, 4, 0))
		for size := 1; size <= 12; size++ {
			one.Vols[0].Size = size
			expectSeenByAny(t, "one volume", one, refTo(blk, 1, 4, 0), size > blk)
			for other := 1; other <= 12; other++ {
				two.Vols[0].Size, two.Vols[1].Size = size, other
				expectSeenByAny(t, "two volumes", two, refTo(blk, 1, 4, 0), size > blk || other > blk)
				expectSeenByAny(t, "no key", two, refTo(blk, 2, 4, 0), false)
			}
		}
	}
}

// TestSeenByAnyOfSeveralVolumes hides a mapping from one volume after the other.
func TestSeenByAnyOfSeveralVolumes(t *testing.T) {
	for hidden := range 16 {
		for size := range 16 {
			ages := agesOf(3, 0, 5, 3, 6, 3, 7, 3, 8, 3)
			keys := []impl.Key{refTo(6, 3, 9, 0)}
			var vols []impl.Vol
			sees := false
			for i := range 4 {
				v := volAs(string(rune('a'+i)), 5+i, 6+size>>i&1)
				vols = append(vols, v)
				if hidden>>i&1 == 1 {
					keys = append(keys, []impl.Key{goneKey(6, 5+i), refTo(6, 5+i, 10+i, 0)}[i%2])
				} else if v.Size == 7 {
					sees = true
				}
			}
			p := poolWith(t, ages, vols, keys...)
			expectSeenByAny(t, "four volumes", p, keys[0], sees)
			for _, k := range keys[1:] {
				expectSeenByAny(t, "their own", p, k, size>>(k.Age-5)&1 == 1)
			}
		}
	}
}

// TestSeenByAnyOfKeysThatAreNotInTheTree: the position counts, and only where the
// tree has a key.
func TestSeenByAnyOfKeysThatAreNotInTheTree(t *testing.T) {
	p := richPool()
	for _, k := range []impl.Key{goneKey(0, 1), noneKey(0, 1), refTo(0, 1, 3, 122), refTo(0, 1, 99, -5), refTo(0, 6, 7, 999), {Blk: 0, Age: 6, Kind: 77}} {
		expectSeenByAny(t, "another key of the position", p, k, true)
		k.Age = 2
		expectSeenByAny(t, "no key of the position", p, k, false)
	}
	for _, blk := range append(farInts, 0, 1, 12, 15, 16) {
		for _, age := range append(farInts, 0, 2, 5, 8, 12, 60, 61) {
			if blk != 1 || age != 2 {
				expectSeenByAny(t, "no key", p, impl.Key{Blk: blk, Age: age, Kind: impl.KData}, false)
			}
		}
	}
	expectSeenByAny(t, "a new pool", impl.PoolNew(), refTo(0, 1, 0, 0), false)
	expectSeenByAny(t, "the zero Pool", impl.Pool{}, impl.Key{}, false)
}

// TestSeenByAnyInInvalidPools covers pools for which the chapter states no
// precondition.
func TestSeenByAnyInInvalidPools(t *testing.T) {
	for _, p := range somePools(t) {
		for blk := -1; blk <= 16; blk++ {
			for age := -1; age <= 13; age++ {
				k := impl.Key{Blk: blk, Age: age}
				expectSeenByAny(t, "a pool", p, k, seenBySome(p, k))
			}
		}
	}
	p := calm(t, refTo(1, 2, 1, 0))
	p.Vols[0].Age, p.Vols[1].Age = 4, 7
	expectSeenByAny(t, "volumes whose versions do not exist", p, refTo(1, 2, 1, 0), false)
	p.Vols[1].Age = 2
	expectSeenByAny(t, "a volume of a version with children", p, refTo(1, 2, 1, 0), true)
	p = calm(t, refTo(1, 4, 1, 0), refTo(1, 2, 2, 0))
	expectSeenByAny(t, "a key whose version does not exist", p, refTo(1, 4, 1, 0), false)
	p.Vols[0].Age = 4
	expectSeenByAny(t, "a volume of the version that does not exist", p, refTo(1, 4, 1, 0), false)
	p = calm(t)
	p.T = loose(impl.Key{Blk: -3, Age: 5, Kind: impl.KData})
	expectSeenByAny(t, "a negative block", p, impl.Key{Blk: -3, Age: 5}, true)
	for i := range p.Vols {
		p.Vols[i].Size = -3
	}
	expectSeenByAny(t, "a negative size", p, impl.Key{Blk: -3, Age: 5}, false)
	p.T = loose(impl.Key{Blk: -4, Age: 5, Kind: impl.KData})
	expectSeenByAny(t, "a negative size and a block below", p, impl.Key{Blk: -4, Age: 5}, true)
	p.Vols[0].Size, p.T = math.MaxInt, loose(impl.Key{Blk: math.MaxInt - 1, Age: 5, Kind: impl.KData})
	expectSeenByAny(t, "a great block", p, impl.Key{Blk: math.MaxInt - 1, Age: 5}, true)
	p.Vols = p.Vols[1:]
	expectSeenByAny(t, "the volume is gone", p, impl.Key{Blk: math.MaxInt - 1, Age: 5}, false)
}

// TestEachStep states the first step of some pools without idle versions to
// remove. The step removes the key with that index.
func TestEachStep(t *testing.T) {
	for _, c := range []struct {
		what    string
		step, i int
		keys    []impl.Key
	}{
		{"no key", impl.StNone, 0, nil},
		{"seen by one volume alone", impl.StNone, 0, []impl.Key{refTo(4, 2, 7, 0)}},
		{"seen by both volumes", impl.StNone, 0, []impl.Key{refTo(1, 2, 7, 0)}},
		{"each volume's own", impl.StNone, 0, []impl.Key{refTo(1, 5, 7, 0), refTo(1, 6, 8, 0)}},
		{"one volume's own, seen by the other", impl.StNone, 0, []impl.Key{refTo(1, 2, 7, 0), refTo(1, 6, 8, 0)}},
		{"hidden from both volumes", impl.StUnseen, 0, []impl.Key{refTo(1, 2, 7, 0), refTo(1, 5, 8, 0), goneKey(1, 6)}},
		{"hidden from one volume, behind the other", impl.StUnseen, 0, []impl.Key{refTo(4, 2, 7, 0), refTo(4, 5, 8, 0)}},
		{"behind the larger volume", impl.StUnseen, 1, []impl.Key{refTo(7, 2, 6, 0), refTo(8, 2, 7, 0), refTo(9, 5, 8, 0)}},
		{"behind its own volume", impl.StUnseen, 1, []impl.Key{refTo(2, 6, 7, 0), refTo(3, 6, 8, 0)}},
		{"the last cell in the last generation", impl.StUnseen, 0, []impl.Key{refTo(15, 5, 23, 999)}},
		{"KGone behind its own volume", impl.StUnseen, 1, []impl.Key{refTo(3, 2, 7, 0), goneKey(3, 6)}},
		{"KGone over KData", impl.StNone, 0, []impl.Key{refTo(1, 2, 7, 0), goneKey(1, 6)}},
		{"KGone over KGone", impl.StGone, 0, []impl.Key{goneKey(1, 2), goneKey(1, 6)}},
		{"KGone alone", impl.StGone, 0, []impl.Key{goneKey(1, 6)}},
		{"KGone alone, of a version with children", impl.StGone, 0, []impl.Key{goneKey(1, 2), refTo(1, 6, 3, 0)}},
		{"KGone beside KData of another block", impl.StGone, 1, []impl.Key{refTo(1, 2, 7, 0), goneKey(2, 6)}},
		{"KGone beside KData of another version", impl.StGone, 1, []impl.Key{refTo(1, 5, 7, 0), goneKey(1, 6)}},
		{"the first of two that are not seen", impl.StUnseen, 0, []impl.Key{goneKey(3, 6), refTo(9, 5, 8, 0)}},
		{"one that is not seen behind KGone", impl.StUnseen, 2, []impl.Key{goneKey(1, 5), goneKey(2, 6), refTo(9, 5, 8, 0)}},
		{"KGone that is not seen behind KGone", impl.StUnseen, 1, []impl.Key{goneKey(1, 5), goneKey(3, 6)}},
		{"the first of two KGone", impl.StGone, 1, []impl.Key{refTo(0, 2, 8, 0), goneKey(1, 5), goneKey(2, 6)}},
	} {
		p := calm(t, c.keys...)
		expectPoolOk(t, c.what, p, true)
		expectStep(t, c.what, p, c.step, c.i)
		if c.step == impl.StNone {
			expectNothingLeft(t, c.what, p)
			continue
		}
		k, want := c.keys[c.i], deepPool(p)
		want.T, _ = treeAfterPut(p.T, noneKey(k.Blk, k.Age))
		if k.Kind == impl.KData {
			want.Cells[k.Cell] = impl.Cell{Gen: (k.Gen + 1) % 1000}
		}
		expectKeys(t, c.what, liveTreeKeys(want.T), slices.Delete(slices.Clone(c.keys), c.i, c.i+1))
		expectPruned(t, c.what, p, want)
	}
}

// TestGoneBelowGone has KGone below KGone: only the upper one can be in the way,
// and only if there is nothing above it.
func TestGoneBelowGone(t *testing.T) {
	ages := agesOf(2, 0, 3, 2, 5, 3, 6, 2, 7, 3)
	vols := []impl.Vol{volAs("a", 5, 2), volAs("b", 6, 2), volAs("c", 7, 2)}
	upper, lower, top := goneKey(1, 3), goneKey(1, 7), refTo(1, 2, 4, 0)
	expectNothingLeft(t, "KData above both", poolWith(t, ages, vols, top, upper, lower))
	expectStep(t, "nothing above", poolWith(t, ages, vols, upper, lower), impl.StGone, 0)
	expectStep(t, "nothing above the lower one", poolWith(t, ages, vols, lower), impl.StGone, 0)
	expectStep(t, "KGone above both", poolWith(t, ages, vols, goneKey(1, 2), upper, lower), impl.StGone, 0)
	expectStep(t, "nothing above, and another block", poolWith(t, ages, vols, goneKey(0, 7), refTo(0, 2, 5, 0), upper, lower), impl.StGone, 2)
	for _, keys := range [][]impl.Key{{top, upper, lower}, {upper, lower}, {goneKey(1, 2), upper, lower}} {
		p := expectHarmlessToTheEnd(t, "KGone below KGone", poolWith(t, ages, vols, keys...), map[int]int{})
		if left := len(liveTreeKeys(p.T)); left != 0 && left != 3 {
			t.Errorf("the keys %v are left", liveTreeKeys(p.T))
		}
	}
}

// TestMoves states the steps that move a key, and those ahead of them.
func TestMoves(t *testing.T) {
	for _, c := range []struct {
		what    string
		keys    []impl.Key
		step, i int
		left    []impl.Key
	}{
		{"to the only child", []impl.Key{refTo(1, 3, 7, 5)}, impl.StMove, 0, []impl.Key{refTo(1, 4, 7, 5)}},
		{"to the version of a volume", []impl.Key{refTo(1, 4, 7, 5)}, impl.StMove, 0, []impl.Key{refTo(1, 5, 7, 5)}},
		{"to a version with several children", []impl.Key{refTo(1, 1, 7, 5)}, impl.StMove, 0, []impl.Key{refTo(1, 2, 7, 5)}},
		{"a key that one volume alone sees", []impl.Key{refTo(7, 1, 7, 5)}, impl.StMove, 0, []impl.Key{refTo(7, 2, 7, 5)}},
		{"KGone over KData", []impl.Key{refTo(1, 2, 7, 5), goneKey(1, 3)}, impl.StMove, 1, []impl.Key{refTo(1, 2, 7, 5), goneKey(1, 4)}},
		{"KGone over KData to the version of a volume", []impl.Key{refTo(1, 2, 7, 5), goneKey(1, 4)}, impl.StMove, 1, []impl.Key{refTo(1, 2, 7, 5), goneKey(1, 5)}},
		{"KGone over KGone over KData", []impl.Key{refTo(1, 2, 7, 5), goneKey(1, 4), goneKey(1, 5)}, impl.StUnseen, 1, []impl.Key{refTo(1, 2, 7, 5), goneKey(1, 5)}},
		{"KGone with nothing above", []impl.Key{goneKey(1, 4)}, impl.StGone, 0, nil},
		{"KGone with a key below alone", []impl.Key{goneKey(1, 1), refTo(1, 6, 7, 5)}, impl.StGone, 0, []impl.Key{refTo(1, 6, 7, 5)}},
		{"beside KGone of a greater index", []impl.Key{refTo(0, 1, 7, 5), goneKey(1, 2)}, impl.StGone, 1, []impl.Key{refTo(0, 1, 7, 5)}},
		{"beside a key of a greater index that is not seen", []impl.Key{refTo(0, 1, 7, 5), goneKey(1, 7)}, impl.StUnseen, 1, []impl.Key{refTo(0, 1, 7, 5)}},
		{"the child has a key", []impl.Key{refTo(1, 3, 7, 5), goneKey(1, 4)}, impl.StUnseen, 0, []impl.Key{goneKey(1, 4)}},
		{"the child has a key of another block", []impl.Key{refTo(1, 3, 7, 5), refTo(2, 4, 8, 6)}, impl.StMove, 0, []impl.Key{refTo(1, 4, 7, 5), refTo(2, 4, 8, 6)}},
		{"the grandchild has KGone", []impl.Key{refTo(1, 1, 7, 5), goneKey(1, 3)}, impl.StMove, 0, []impl.Key{refTo(1, 2, 7, 5), goneKey(1, 3)}},
		{"the first of two", []impl.Key{refTo(0, 2, 6, 1), refTo(1, 3, 7, 5), refTo(1, 1, 8, 6)}, impl.StMove, 1, []impl.Key{refTo(0, 2, 6, 1), refTo(1, 2, 8, 6), refTo(1, 3, 7, 5)}},
		{"two children", []impl.Key{refTo(1, 2, 7, 5)}, impl.StAge, 0, []impl.Key{refTo(1, 2, 7, 5)}},
		{"a version of a volume", []impl.Key{refTo(1, 5, 7, 5)}, impl.StAge, 0, []impl.Key{refTo(1, 5, 7, 5)}},
	} {
		p := sawtooth(t, c.keys...)
		expectPoolOk(t, c.what, p, true)
		expectStep(t, c.what, p, c.step, c.i)
		got, ok := impl.PruneStep(p)
		want, _ := afterStep(p)
		if !ok || !samePool(got, want) {
			t.Errorf("%s: PruneStep(%v) = %v, %v, want %v, true", c.what, p, got, ok, want)
		}
		expectKeys(t, c.what, liveTreeKeys(got.T), liveKeys(nodeOf(c.left)))
		if c.step == impl.StMove {
			expectCells(t, c.what, got.Cells, p.Cells)
			expectAges(t, c.what, got.Ages, p.Ages)
		}
	}
}

func expectAges(t *testing.T, what string, got, want []impl.Age) {
	t.Helper()
	if !slices.Equal(got, want) {
		t.Errorf("%s: the versions are %v, want %v", what, got, want)
	}
}

// TestVersionsThatAreRemoved states the versions that are left after each step.
func TestVersionsThatAreRemoved(t *testing.T) {
	p := sawtooth(t, refTo(1, 2, 7, 5), refTo(2, 5, 8, 6))
	for i, want := range [][]impl.Age{
		agesOf(2, 0, 3, 2, 4, 3, 5, 4, 6, 2, 7, 2, 8, 0, 9, 8),
		agesOf(2, 0, 4, 2, 5, 4, 6, 2, 7, 2, 8, 0, 9, 8),
		agesOf(2, 0, 5, 2, 6, 2, 7, 2, 8, 0, 9, 8),
		agesOf(2, 0, 5, 2, 6, 2, 8, 0, 9, 8),
		agesOf(2, 0, 5, 2, 6, 2, 9, 0),
		agesOf(2, 0, 5, 2, 6, 2),
	} {
		expectStep(t, "a version", p, impl.StAge, []int{0, 1, 1, 3, 3, 3}[i])
		out := deepPool(p)
		out.Ages = want
		expectPruned(t, "a version", p, out)
		p = out
	}
	expectNothingLeft(t, "all versions are needed", p)
	p = killed(t, p, "b")
	expectStep(t, "no volume of a leaf", p, impl.StAge, 2)
	p, _ = impl.PruneStep(p)
	expectAges(t, "no volume of a leaf", p.Ages, agesOf(2, 0, 5, 2))
	expectStep(t, "one child is left", p, impl.StMove, 0)
	p, _ = impl.PruneStep(p)
	expectStep(t, "one child is left, and no key", p, impl.StAge, 0)
	p, _ = impl.PruneStep(p)
	expectAges(t, "the version of the volume", p.Ages, agesOf(5, 0))
	expectKeys(t, "the version of the volume", liveTreeKeys(p.T), []impl.Key{refTo(1, 5, 7, 5), refTo(2, 5, 8, 6)})
	expectNothingLeft(t, "one version", p)
}

// TestVersionsByTheirChildren gives a version without a volume 0 to 5 children,
// with and without a key.
func TestVersionsByTheirChildren(t *testing.T) {
	for kids := range 6 {
		for keyed := range 2 {
			ages, vols, keys := agesOf(3, 0, 5, 3), []impl.Vol{volAs("z", 5, 2)}, []impl.Key{}
			ages = append(ages, impl.Age{Id: 7, From: 3})
			for i := range kids {
				ages, vols = append(ages, impl.Age{Id: 10 + i, From: 7}), append(vols, volAs(string(rune('a'+i)), 10+i, 3))
			}
			slices.SortFunc(vols, func(a, b impl.Vol) int { return strings.Compare(a.Name, b.Name) })
			if keyed == 1 {
				keys = append(keys, refTo(2, 7, 4, 0))
			}
			p := poolWith(t, ages, vols, keys...)
			what := fmt.Sprintf("%d children, %d keys", kids, keyed)
			switch {
			case kids == 0 && keyed == 1:
				expectStep(t, what, p, impl.StUnseen, 0)
			case kids == 1 && keyed == 1:
				expectStep(t, what, p, impl.StMove, 0)
			case kids < 2:
				expectStep(t, what, p, impl.StAge, 2)
			default:
				expectNothingLeft(t, what, p)
			}
			expectHarmlessToTheEnd(t, what, p, map[int]int{})
			// A volume of the version itself needs it, too.
			if kids == 0 {
				p.Vols = append(p.Vols, volAs("zz", 7, 3))
				expectNothingLeft(t, what+", a volume", p)
			}
		}
	}
}

// TestStepsInOrder performs all steps of a pool to which each of them applies.
func TestStepsInOrder(t *testing.T) {
	p := sawtooth(t, refTo(0, 1, 0, 0), refTo(0, 9, 1, 10), refTo(1, 3, 2, 20), goneKey(1, 4), goneKey(1, 5), goneKey(2, 6), refTo(5, 6, 3, 30))
	want := [][3]int{
		{impl.StUnseen, 1, 3}, {impl.StUnseen, 1, 2}, {impl.StUnseen, 1, 2}, {impl.StUnseen, 3, 1},
		{impl.StGone, 1, 1}, {impl.StGone, 1, 1},
		{impl.StMove, 0, 1},
		{impl.StAge, 0, 1}, {impl.StAge, 1, 1}, {impl.StAge, 1, 1}, {impl.StAge, 3, 1}, {impl.StAge, 3, 1}, {impl.StAge, 3, 1},
	}
	for i, w := range want {
		expectStep(t, fmt.Sprint("step ", i), p, w[0], w[1])
		p, _ = expectHarmless(t, fmt.Sprint("step ", i), p)
		if impl.UsedCells(p.Cells) != w[2] {
			t.Errorf("step %d: %d used cells, want %d", i, impl.UsedCells(p.Cells), w[2])
		}
	}
	expectNothingLeft(t, "all steps", p)
	expectKeys(t, "all steps", liveTreeKeys(p.T), []impl.Key{refTo(0, 2, 0, 0)})
	expectAges(t, "all steps", p.Ages, agesOf(2, 0, 5, 2, 6, 2))
}

// TestStepsOfTheRichPool starts with a pool that has hidden keys and deletions.
func TestStepsOfTheRichPool(t *testing.T) {
	p := richPool()
	for i, w := range [][2]int{{impl.StUnseen, 4}, {impl.StUnseen, 8}, {impl.StGone, 6}, {impl.StAge, 6}} {
		expectStep(t, fmt.Sprint("step ", i), p, w[0], w[1])
		p, _ = expectHarmless(t, fmt.Sprint("step ", i), p)
	}
	expectNothingLeft(t, "all steps", p)
	expectMaps(t, "all steps", impl.MapsOf(p), mapsIn(richPool()))
	cells := withCell(withCell(richPool().Cells, 9, impl.Cell{Gen: 370}), 5, impl.Cell{Gen: 206})
	expectCells(t, "all steps", p.Cells, cells)
}

// TestEachGenerationIsFreed prunes a key of each generation.
func TestEachGenerationIsFreed(t *testing.T) {
	for gen := range 1000 {
		p := poolWith(t, agesOf(1, 0), nil, refTo(0, 1, gen%24, gen))
		out := deepPool(p)
		out.T, _ = treeAfterPut(p.T, noneKey(0, 1))
		out.Cells[gen%24] = impl.Cell{Gen: (gen + 1) % 1000}
		expectPruned(t, "a generation", p, out)
	}
}

// TestEachSmallPool goes through all forests of up to four versions, with each
// choice of volumes and each kind of mapping of one block, which some volumes are
// too small for.
func TestEachSmallPool(t *testing.T) {
	counts := map[int]int{}
	for n := 1; n <= 4; n++ {
		ids := []int{3, 4, 7, 60}[4-n:]
		for state := range power(3, n) {
			eachForest(ids, func(l []impl.Age) {
				keys := stateKeys(ids, 1, state, 3)
				eachChoiceOfVols(l, n < 4, func(vols []impl.Vol) {
					expectHarmlessToTheEnd(t, "a small pool", poolWith(t, l, vols, keys...), counts)
				})
			})
		}
	}
	for step := impl.StUnseen; step <= impl.StAge; step++ {
		if counts[step] < 500 {
			t.Errorf("few steps of a kind: %v", counts)
		}
	}
}

// eachChoiceOfVols calls f with the volumes of each choice of versions without
// children. They have two blocks or, if small, one or two of them.
func eachChoiceOfVols(l []impl.Age, small bool, f func(vols []impl.Vol)) {
	var choose func(i int, vols []impl.Vol)
	choose = func(i int, vols []impl.Vol) {
		if i == len(l) {
			f(slices.Clone(vols))
			return
		}
		choose(i+1, vols)
		if len(childrenOf(l, l[i].Id)) > 0 {
			return
		}
		name := string(rune('a' + i))
		choose(i+1, append(slices.Clone(vols), volAs(name, l[i].Id, 2)))
		if small {
			choose(i+1, append(slices.Clone(vols), volAs(name, l[i].Id, 1)))
		}
	}
	choose(0, nil)
}

// TestForestsOfFiveVersions takes a part of the forests of five and six versions,
// with a mapping of two blocks.
func TestForestsOfFiveVersions(t *testing.T) {
	counts := map[int]int{}
	ids, turn := []int{1, 2, 5, 8, 9, 13}, 0
	for n := 5; n <= 6; n++ {
		eachForest(ids[:n], func(l []impl.Age) {
			turn++
			state := turn * 7919
			keys := append(stateKeys(ids[:n], 1, state%power(3, n), 3), stateKeys(ids[:n], 11, state/5%power(2, n), 2)...)
			for i, k := range keys {
				if k.Blk == 11 && k.Kind == impl.KData {
					keys[i].Cell += 12
				}
			}
			eachChoiceOfVols(l, false, func(vols []impl.Vol) {
				if turn++; len(vols) > 0 && turn%4 == 0 {
					vols[0].Size = 12
					expectHarmlessToTheEnd(t, "a pool", poolWith(t, l, vols, keys...), counts)
				}
			})
		})
	}
	for step := impl.StUnseen; step <= impl.StAge; step++ {
		if counts[step] < 500 {
			t.Errorf("few steps of a kind: %v", counts)
		}
	}
}

// TestSnapshotsOfSnapshots kills the volumes of a family in each order, and
// prunes after each.
func TestSnapshotsOfSnapshots(t *testing.T) {
	start := familyPool(t)
	want := map[string][]int{"a": {10, 11, 12, 13, 14, 0}, "b": {10, 100, 12, 13, 14, 0}, "c": {10, 100, 200, 13, 14, 0}, "d": {10, 100, 200, 300, 14, 0}}
	expectContents(t, "a family", start, want)
	expectNothingLeft(t, "a family", start)
	var kill func(p impl.Pool, all map[string][]int)
	kill = func(p impl.Pool, all map[string][]int) {
		for name := range all {
			rest := map[string][]int{}
			for other, l := range all {
				if other != name {
					rest[other] = l
				}
			}
			out := expectHarmlessToTheEnd(t, "a family without "+name, killed(t, p, name), map[int]int{})
			expectContents(t, "a family without "+name, out, rest)
			kill(out, rest)
		}
		if len(all) == 0 {
			expectKeys(t, "nobody is left", liveTreeKeys(p.T), nil)
			expectAges(t, "nobody is left", p.Ages, nil)
			expectUsed(t, "nobody is left", p.Cells, 0)
		}
	}
	kill(start, want)
}

// TestTheOldestVolumesAreKilled prunes a family of which the younger volumes are
// left: what they inherit has become their own.
func TestTheOldestVolumesAreKilled(t *testing.T) {
	p := impl.PruneAll(killed(t, killed(t, familyPool(t), "a"), "b"))
	expectContents(t, "the younger ones", p, map[string][]int{"c": {10, 100, 200, 13, 14, 0}, "d": {10, 100, 200, 300, 14, 0}})
	if len(p.Ages) != 3 || len(liveTreeKeys(p.T)) != 6 || impl.UsedCells(p.Cells) != 6 {
		t.Errorf("the younger ones: %v", p)
	}
	p = impl.PruneAll(killed(t, p, "c"))
	expectContents(t, "the youngest", p, map[string][]int{"d": {10, 100, 200, 300, 14, 0}})
	expectAges(t, "the youngest", p.Ages, agesOf(p.Vols[0].Age, 0))
	for _, k := range liveTreeKeys(p.T) {
		if k.Age != p.Vols[0].Age || k.Kind != impl.KData {
			t.Errorf("the key %v is left", k)
		}
	}
	if len(liveTreeKeys(p.T)) != 5 || impl.UsedCells(p.Cells) != 5 {
		t.Errorf("the youngest: %v", p)
	}
}

// TestMappingsOfOneVolume kills one of two volumes that have a block in common:
// the mapping that one volume alone sees then must stay.
func TestMappingsOfOneVolume(t *testing.T) {
	for _, name := range []string{"a", "b"} {
		other := string('a' + 'b' - name[0])
		for bits := range 16 {
			p := created(t, impl.PoolNew(), "a", 4)
			for blk := range 4 {
				p = written(t, p, "a", blk, 10+blk)
			}
			p = snapped(t, p, "a", "b", false)
			for blk := range 4 {
				switch bits >> blk & 1 {
				case 1:
					p = written(t, p, name, blk, 20+blk)
				case 0:
					p = discarded(t, p, name, blk)
				}
			}
			want := contents(p)
			delete(want, name)
			out := expectHarmlessToTheEnd(t, "one is killed", killed(t, p, name), map[int]int{})
			expectContents(t, "one is killed", out, want)
			if len(liveTreeKeys(out.T)) != 4 || len(out.Ages) != 1 {
				t.Errorf("without %q: %v", name, out)
			}
			want = contents(p)
			delete(want, other)
			out = expectHarmlessToTheEnd(t, "the other is killed", killed(t, p, other), map[int]int{})
			expectContents(t, "the other is killed", out, want)
			if len(out.Ages) != 1 || impl.UsedCells(out.Cells) != []int{0, 1, 1, 2, 1, 2, 2, 3, 1, 2, 2, 3, 2, 3, 3, 4}[bits] {
				t.Errorf("without %q: %v", other, out)
			}
		}
	}
}

// TestPruneOfSmallerVolumes makes one of two volumes smaller: the marks behind
// its size go, but not what the other volume sees there.
func TestPruneOfSmallerVolumes(t *testing.T) {
	for size := 1; size <= 11; size++ {
		p := created(t, impl.PoolNew(), "a", 12)
		for blk := range 12 {
			p = written(t, p, "a", blk, 500+blk)
		}
		p = resized(t, snapped(t, p, "a", "b", false), "a", size)
		out := expectHarmlessToTheEnd(t, "a smaller volume", p, map[int]int{})
		want := calmKeys(out, 12)
		expectKeys(t, "a smaller volume", liveTreeKeys(out.T), want)
		out = expectHarmlessToTheEnd(t, "a smaller volume alone", killed(t, out, "b"), map[int]int{})
		expectKeys(t, "a smaller volume alone", liveTreeKeys(out.T), calmKeys(out, size))
	}
}

// calmKeys returns the keys of the first n blocks, all of the oldest version.
func calmKeys(p impl.Pool, n int) []impl.Key {
	var out []impl.Key
	for blk := range n {
		out = append(out, refTo(blk, p.Ages[0].Id, blk, 0))
	}
	return out
}

// longest returns a pool with a chain of n versions, whose first one has the keys
// of all blocks that the only volume sees. All other keys are not seen.
func longest(t *testing.T, n int) impl.Pool {
	t.Helper()
	p := poolWith(t, chainOf(1, n), nil)
	p.Vols = []impl.Vol{volAs("v", 3*n-2, 12)}
	var keys []impl.Key
	for blk := range 16 {
		keys = append(keys, refTo(blk, 1, blk, 7))
		p.Cells[blk] = cellAs(7, 100+blk)
	}
	for i := range 44 {
		keys = append(keys, goneKey(12+i%4, 4+3*(i/4)))
	}
	p.T = grown(t, keys...)
	return p
}

// TestPruneAllTakesManySteps moves 12 keys down a chain of 16 versions.
func TestPruneAllTakesManySteps(t *testing.T) {
	p := longest(t, 16)
	expectPoolOk(t, "the longest chain", p, true)
	counts := map[int]int{}
	out := expectHarmlessToTheEnd(t, "the longest chain", p, counts)
	if fmt.Sprint(counts) != "map[1:48 3:180 4:15]" {
		t.Errorf("the steps are %v", counts)
	}
	expectMaps(t, "the longest chain", impl.MapsOf(out), []impl.Map{mapAs("v", false, 100, 101, 102, 103, 104, 105, 106, 107, 108, 109, 110, 111)})
	if len(out.Ages) != 1 || len(liveTreeKeys(out.T)) != 12 {
		t.Errorf("the longest chain: %v", out)
	}
}

func TestNothingToPrune(t *testing.T) {
	expectNothingLeft(t, "a new pool", impl.PoolNew())
	p := created(t, impl.PoolNew(), "a", 12)
	expectNothingLeft(t, "a new volume", p)
	expectNothingLeft(t, "a written volume", written(t, written(t, p, "a", 0, 5), "a", 11, 6))
	p = written(t, snapped(t, written(t, p, "a", 3, 5), "a", "b", true), "a", 3, 6)
	expectNothingLeft(t, "a snapshot", p)
	expectNothingLeft(t, "a discarded block of a snapshot", discarded(t, p, "a", 3))
	for _, n := range []int{1, 5, 6} {
		expectNothingLeft(t, "volumes without keys", volsPool(n))
	}
	expectNothingLeft(t, "24 used cells", cellsPool(t, 24))
}

func TestPruneOfSoundPools(t *testing.T) {
	counts := map[int]int{}
	for what, p := range soundPools(t) {
		expectHarmlessToTheEnd(t, what, p, counts)
		expectHarmlessToTheEnd(t, what+", wide", wide(p), counts)
		if len(p.Vols) > 0 {
			expectHarmlessToTheEnd(t, what+" without a volume", killed(t, p, p.Vols[0].Name), counts)
		}
		p = deepPool(p)
		p.Vols = nil
		out := expectHarmlessToTheEnd(t, what+" without volumes", p, counts)
		if len(out.Ages) != 0 || len(liveTreeKeys(out.T)) != 0 || usedIn(out.Cells) != 0 {
			t.Errorf("%s without volumes: %v", what, out)
		}
	}
	for step := impl.StUnseen; step <= impl.StAge; step++ {
		if counts[step] < 10 {
			t.Errorf("few steps of a kind: %v", counts)
		}
	}
}

// TestPruneInvalidPools covers each reason why a pool is not valid.
func TestPruneInvalidPools(t *testing.T) {
	pools := badPools()
	noVersion := calm(t, refTo(1, 4, 7, 0))
	pools["the version of an unseen key does not exist"] = noVersion
	noVersion = calm(t, refTo(1, 2, 7, 0), goneKey(9, 5))
	noVersion.Vols[0].Age = 4
	pools["the version of a volume does not exist"] = noVersion
	noVersion = sawtooth(t, goneKey(1, 9))
	noVersion.Cells[3] = cellAs(0, 5)
	pools["a used cell that no key refers to"] = noVersion
	for what, p := range pools {
		expectPoolOk(t, what, p, false)
		expectNothingLeft(t, what, p)
	}
}

// TestWalksWithPruning performs operations of all kinds and prunes in between,
// sometimes by one step and sometimes to the end. The words that the volumes have
// are compared with volumes that share nothing. No volume becomes larger, because
// pruning removes the marks behind its size.
func TestWalksWithPruning(t *testing.T) {
	seed := uint32(1313)
	next := func(limit int) int {
		seed = seed*1664525 + 1013904223
		return int(seed>>8) % limit
	}
	names := []string{"a", "b", "d", "z"}
	name := func() string { return names[next(len(names))] }
	sound := soundPools(t)
	starts := append(sortedNames(sound), slices.Repeat([]string{"a new pool"}, 20)...)
	counts, codes := map[int]int{}, map[string]int{}
	for walk := range 2 * len(starts) {
		p := wide(sound[starts[walk%len(starts)]])
		l := impl.MapsOf(p)
		for range 60 {
			o := writePair(name(), next(12), next(65536))
			switch next(20) {
			case 0, 1, 2:
				o = createPair(name(), 12)
			case 3, 4, 5, 6:
				o = snapPair(name(), name(), next(3) == 0)
			case 7, 8, 9:
				o = discardPair(name(), next(12))
			case 10:
				v := name()
				size := 12
				if i := impl.VolAt(p, v); i >= 0 {
					size = 1 + next(p.Vols[i].Size)
				}
				o = resizePair(v, size)
			case 11, 12, 13:
				o = killPair(name())
			}
			out, code, _ := expectSameEffect(t, p, o)
			codes[fmt.Sprint(strings.Fields(o.pool.what)[0], " ", code)]++
			if code == impl.CoGood {
				l, _ = o.maps.call(l)
			}
			switch next(8) {
			case 0:
				out = expectHarmlessToTheEnd(t, "the walk", out, counts)
			case 1, 2, 3, 4:
				out, code = expectHarmless(t, "the walk", out)
				counts[code]++
			}
			expectMaps(t, "the walk", impl.MapsOf(out), l)
			p = out
		}
	}
	for step := impl.StUnseen; step <= impl.StAge; step++ {
		if counts[step] < 50 {
			t.Errorf("the walk is too short: %v", counts)
		}
	}
	for _, what := range []string{"Create 0", "Snap 0", "Kill 0", "Write 0", "Write 5", "Discard 0", "Resize 0"} {
		if codes[what] < 50 {
			t.Errorf("the walk is too short: %v", codes)
		}
	}
}

// TestPruneMakesRoom: without pruning, versions, cells and keys run out.
func TestPruneMakesRoom(t *testing.T) {
	expectNoCreate(t, "16 versions", agesPool(16), "a", 1, impl.CoFull)
	p := created(t, impl.PruneAll(agesPool(16)), "a", 1)
	expectAges(t, "a new version", p.Ages, agesOf(46, 0, 47, 0))
	full := cellsPool(t, 24)
	full.Vols[0].Size = 11
	expectNoWrite(t, "24 used cells", full, "a", 0, 1, impl.CoFull)
	p = written(t, impl.PruneAll(full), "a", 0, 1)
	if impl.UsedCells(p.Cells) != 23 {
		t.Errorf("a written block: %v", p)
	}
	expectNoWrite(t, "60 keys", killed(t, hiddenPool(t, 60), "b"), "a", 0, 1, impl.CoFull)
	p = written(t, impl.PruneAll(killed(t, hiddenPool(t, 60), "b")), "a", 0, 1)
	if len(liveTreeKeys(p.T)) != 4 {
		t.Errorf("a written block: %v", p)
	}
}

// somePrunable returns pools of all kinds: valid and invalid ones, and ones for
// each step.
func somePrunable(t *testing.T) []impl.Pool {
	t.Helper()
	out := append(somePools(t), longest(t, 4), killed(t, familyPool(t), "a"), killed(t, killed(t, familyPool(t), "c"), "b"),
		sawtooth(t), sawtooth(t, goneKey(1, 6)), sawtooth(t, refTo(1, 3, 7, 0)), sawtooth(t, refTo(0, 2, 8, 0), goneKey(0, 3), goneKey(9, 5)))
	for _, p := range slices.Clone(out) {
		if next, ok := impl.PruneStep(p); ok {
			p.Vols = nil
			out = append(out, next, p)
		}
	}
	return out
}

func TestPruneSharesNoMemory(t *testing.T) {
	calls := map[string]func(p impl.Pool) impl.Pool{
		"PruneAll":  impl.PruneAll,
		"PruneStep": func(p impl.Pool) impl.Pool { out, _ := impl.PruneStep(p); return out },
	}
	steps := map[int]int{}
	for _, old := range somePrunable(t) {
		step, _ := impl.NextStep(old)
		steps[step]++
		for what, call := range calls {
			expectOwnMemory(t, what, old, call)
		}
	}
	if len(steps) != 5 {
		t.Errorf("the steps are %v", steps)
	}
}

func TestStepLookupChangesNoArgument(t *testing.T) {
	for _, old := range somePrunable(t) {
		p := roomyPool(old)
		step, i := impl.NextStep(p)
		want, at := firstStep(old)
		if step != want || i != at {
			t.Errorf("NextStep(%v) = %d, %d, want %d, %d", old, step, i, want, at)
		}
		for blk := range 13 {
			for age := range 12 {
				k := impl.Key{Blk: blk, Age: age}
				expectSeenByAny(t, "a pool with spare capacity", p, k, seenBySome(old, k))
			}
		}
		expectWholePool(t, "the argument", p, old)
	}
}

// TestPruneStopsAtTheLength gives a pool spare volumes, versions and nodes.
func TestPruneStopsAtTheLength(t *testing.T) {
	p := volsPool(3)
	p.Vols = p.Vols[:2]
	expectStep(t, "a spare volume", p, impl.StAge, 2)
	out := deepPool(p)
	out.Ages = out.Ages[:2]
	expectPruned(t, "a spare volume", p, out)
	p = calm(t, refTo(1, 2, 7, 0))
	p.Ages = append(p.Ages, agesOf(7, 2, 8, 0)...)[:3]
	expectNothingLeft(t, "spare versions", p)
	p.T.Nodes, p.T.Lows = append(p.T.Nodes, nodeOf([]impl.Key{goneKey(9, 5)}))[:1], append(p.T.Lows, 64*9)[:1]
	expectNothingLeft(t, "a spare node", p)
	expectSeenByAny(t, "a key of a spare node", p, goneKey(9, 5), false)
}
