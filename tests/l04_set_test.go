package tests

import (
	"math"
	"slices"
	"testing"

	"loop.example/g00467/impl"
)

func noneKey(blk, age int) impl.Key { return impl.Key{Blk: blk, Age: age, Kind: impl.KNone} }

func goneKey(blk, age int) impl.Key { return impl.Key{Blk: blk, Age: age, Kind: impl.KGone} }

func dataKey(blk, age, cell int) impl.Key {
	return impl.Key{Blk: blk, Age: age, Kind: impl.KData, Cell: cell, Gen: 7}
}

// runOfKeys returns n valid keys of all kinds in ascending order (n at most
// 900).
func runOfKeys(n int) []impl.Key {
	out := make([]impl.Key, n)
	for i := range out {
		out[i] = impl.Key{Blk: i / 60, Age: i%60 + 1, Kind: i % 3}
		if i%3 == impl.KData {
			out[i].Cell, out[i].Gen = i%24, i
		}
	}
	return out
}

// looseRun returns n valid keys in ascending order with a free position before,
// between and after each pair of them (n at most 60).
func looseRun(n int) []impl.Key {
	out := make([]impl.Key, n)
	for i := range out {
		out[i] = dataKey(i/20+1, i%20*2+2, i%24)
	}
	return out
}

// invalidKeys returns one key for each reason why a key is not valid.
func invalidKeys() []impl.Key {
	return []impl.Key{
		{}, {Blk: -1, Age: 5}, {Blk: 16, Age: 5}, {Blk: 4, Age: 0}, {Blk: 4, Age: 61}, {Blk: 4, Age: -1},
		{Blk: 4, Age: 5, Kind: -1}, {Blk: 4, Age: 5, Kind: 3}, {Blk: 4, Age: 5, Kind: impl.KData, Cell: 24},
		{Blk: 4, Age: 5, Kind: impl.KData, Cell: -1}, {Blk: 4, Age: 5, Kind: impl.KData, Gen: 1000},
		{Blk: 4, Age: 5, Kind: impl.KData, Gen: -1}, {Blk: 4, Age: 5, Cell: 1}, {Blk: 4, Age: 5, Gen: 1},
		{Blk: 4, Age: 5, Kind: impl.KGone, Cell: 1}, {Blk: 4, Age: 5, Kind: impl.KGone, Gen: 1},
		{Blk: math.MinInt, Age: 5}, {Blk: math.MaxInt, Age: 5}, {Blk: 4, Age: math.MinInt}, {Blk: 4, Age: math.MaxInt},
	}
}

func atSpot(k impl.Key, blk, age int) bool { return k.Blk == blk && k.Age == age }

func ahead(a, b impl.Key) bool { return a.Blk < b.Blk || a.Blk == b.Blk && a.Age < b.Age }

// putInto says what SetPut returns, in the words of chapter 4: the place is
// that of the first key of l, before any is removed, that is not less than k.
func putInto(l []impl.Key, k impl.Key) []impl.Key {
	place := 0
	for place < len(l) && ahead(l[place], k) {
		place++
	}
	var out []impl.Key
	for i := range len(l) + 1 {
		if i == place {
			out = append(out, k)
		}
		if i < len(l) && !atSpot(l[i], k.Blk, k.Age) {
			out = append(out, l[i])
		}
	}
	return out
}

// shortLists returns all lists of at most n keys at the four positions of two
// blocks and two versions, in any order and with any repetition; no two keys of
// a list are equal.
func shortLists(n int) [][]impl.Key {
	out := [][]impl.Key{nil}
	for from := 0; n > 0; n-- {
		to := len(out)
		for _, l := range out[from:to] {
			for spot := range 4 {
				k := dataKey(spot/2+3, spot%2+8, len(l))
				out = append(out, append(slices.Clone(l), k))
			}
		}
		from = to
	}
	return out
}

func expectKeys(t *testing.T, what string, got, want []impl.Key) {
	t.Helper()
	if !slices.Equal(got, want) {
		t.Errorf("%s = %v, want %v", what, got, want)
	}
}

func expectSetOk(t *testing.T, what string, l []impl.Key, want bool) {
	t.Helper()
	if got := impl.SetOk(l); got != want {
		t.Errorf("%s: SetOk = %v, want %v", what, got, want)
	}
}

func expectNotIn(t *testing.T, l []impl.Key, blk, age int) {
	t.Helper()
	if k, ok := impl.SetAt(l, blk, age); k != (impl.Key{}) || ok {
		t.Errorf("SetAt(%v, %d, %d) = %v, %v, want the zero Key, false", l, blk, age, k, ok)
	}
}

func TestSetOkForEachLength(t *testing.T) {
	expectSetOk(t, "nil", nil, true)
	for n := range 130 {
		expectSetOk(t, "ascending keys", runOfKeys(n), n <= 60)
	}
}

func TestSetOkOfOneKind(t *testing.T) {
	for kind := range 3 {
		l := runOfKeys(60)
		for i, k := range l {
			l[i] = impl.Key{Blk: k.Blk, Age: k.Age, Kind: kind}
		}
		expectSetOk(t, "keys of one kind", l, true)
	}
}

func TestSetOkRequiresOrder(t *testing.T) {
	for i := range 59 {
		l := looseRun(60)
		l[i], l[i+1] = l[i+1], l[i]
		expectSetOk(t, "two keys swapped", l, false)
	}
	l := looseRun(5)
	l[0], l[4] = l[4], l[0]
	expectSetOk(t, "ends swapped", l, false)
	l = looseRun(60)
	slices.Reverse(l)
	expectSetOk(t, "descending", l, false)
	expectSetOk(t, "block before version", []impl.Key{goneKey(1, 60), goneKey(2, 1)}, true)
	expectSetOk(t, "version before block", []impl.Key{goneKey(2, 1), goneKey(1, 60)}, false)
	expectSetOk(t, "ends of the ranges", []impl.Key{goneKey(0, 1), goneKey(15, 60)}, true)
}

func TestSetOkRejectsRepeatedPositions(t *testing.T) {
	for i := range 30 {
		l := looseRun(30)
		expectSetOk(t, "one key twice", slices.Insert(l, i, l[i]), false)
		l = looseRun(30)
		expectSetOk(t, "two keys of one position", slices.Insert(l, i, goneKey(l[i].Blk, l[i].Age)), false)
	}
	for _, k := range sampleKeys() {
		expectSetOk(t, "one key", []impl.Key{k}, true)
		expectSetOk(t, "two equal keys", []impl.Key{k, k}, false)
	}
}

func TestSetOkForEachShortList(t *testing.T) {
	for _, l := range shortLists(5) {
		want := true
		for i, k := range l {
			want = want && (i == 0 || ahead(l[i-1], k))
		}
		if got := impl.SetOk(l); got != want {
			t.Errorf("SetOk(%v) = %v, want %v", l, got, want)
		}
	}
}

func TestSetOkRejectsInvalidKeys(t *testing.T) {
	around := []impl.Key{goneKey(3, 9), goneKey(3, 10), goneKey(5, 1)}
	for _, k := range invalidKeys() {
		expectSetOk(t, "one invalid key", []impl.Key{k}, false)
		// The order holds, so the key itself is the only reason.
		l := putInto(around, k)
		expectSetOk(t, "an invalid key among others", l, false)
		for i := range 4 {
			expectSetOk(t, "an invalid key anywhere", slices.Insert(slices.Clone(around), i, k), false)
		}
	}
	expectSetOk(t, "the same without them", around, true)
}

func TestSetOkStopsAtTheLength(t *testing.T) {
	l := append(runOfKeys(60), impl.Key{}, noneKey(0, 1))
	expectSetOk(t, "60 keys and spare ones", l[:60], true)
	expectSetOk(t, "no keys and spare ones", l[60:60], true)
}

func TestSetAtFindsEachKey(t *testing.T) {
	for _, n := range []int{1, 2, 3, 60, 61, 200} {
		l := runOfKeys(n)
		for _, want := range l {
			if k, ok := impl.SetAt(l, want.Blk, want.Age); k != want || !ok {
				t.Errorf("SetAt of %v among %d keys = %v, %v", want, n, k, ok)
			}
		}
	}
}

func TestSetAtOfFreePositions(t *testing.T) {
	l := looseRun(60)
	for _, k := range l {
		for _, p := range [][2]int{{k.Blk, k.Age - 1}, {k.Blk, k.Age + 1}, {k.Blk + 3, k.Age}, {k.Blk - 3, k.Age}, {k.Blk, 0}} {
			expectNotIn(t, l, p[0], p[1])
		}
	}
	for _, n := range []int{math.MinInt, -1, 0, 64, math.MaxInt} {
		expectNotIn(t, l, n, 2)
		expectNotIn(t, l, 1, n)
		expectNotIn(t, nil, n, n)
	}
	// One number for both would mistake these for a position of the list.
	expectNotIn(t, []impl.Key{goneKey(2, 5)}, 1, 69)
	expectNotIn(t, []impl.Key{goneKey(2, 5)}, 3, -59)
	expectNotIn(t, []impl.Key{goneKey(2, 5)}, 5, 2)
}

func TestSetAtFindsDeletedMappings(t *testing.T) {
	l := []impl.Key{noneKey(1, 1), noneKey(1, 2), noneKey(4, 1)}
	for _, want := range l {
		if k, ok := impl.SetAt(l, want.Blk, want.Age); k != want || !ok {
			t.Errorf("SetAt of %v = %v, %v", want, k, ok)
		}
	}
}

func TestSetAtForEachShortList(t *testing.T) {
	for _, l := range shortLists(5) {
		for spot := range 4 {
			blk, age := spot/2+3, spot%2+8
			i := slices.IndexFunc(l, func(k impl.Key) bool { return atSpot(k, blk, age) })
			if i < 0 {
				expectNotIn(t, l, blk, age)
				continue
			}
			if k, ok := impl.SetAt(l, blk, age); k != l[i] || !ok {
				t.Errorf("SetAt(%v, %d, %d) = %v, %v, want the first one, %v", l, blk, age, k, ok, l[i])
			}
		}
	}
}

func TestSetAtOfInvalidKeys(t *testing.T) {
	l := invalidKeys()
	for _, want := range l[:6] {
		if k, ok := impl.SetAt(l, want.Blk, want.Age); k != want || !ok {
			t.Errorf("SetAt of %v = %v, %v", want, k, ok)
		}
	}
	if k, ok := impl.SetAt([]impl.Key{{}}, 0, 0); k != (impl.Key{}) || !ok {
		t.Errorf("SetAt of the zero Key = %v, %v", k, ok)
	}
}

func TestSetAtStopsAtTheLength(t *testing.T) {
	l := runOfKeys(5)
	expectNotIn(t, l[:4], l[4].Blk, l[4].Age)
	expectNotIn(t, l[:0], l[0].Blk, l[0].Age)
}

func TestSetPutIntoAnEmptySet(t *testing.T) {
	for _, k := range append(sampleKeys(), invalidKeys()...) {
		expectKeys(t, "SetPut(nil)", impl.SetPut(nil, k), []impl.Key{k})
		expectKeys(t, "SetPut(empty)", impl.SetPut([]impl.Key{}, k), []impl.Key{k})
	}
}

func TestSetPutAtEachPlace(t *testing.T) {
	for _, n := range []int{1, 2, 7, 59, 60} {
		l := looseRun(n)
		first, last := goneKey(l[0].Blk, l[0].Age-1), goneKey(15, 60)
		expectKeys(t, "SetPut before the first key", impl.SetPut(l, first), append([]impl.Key{first}, l...))
		expectKeys(t, "SetPut behind the last key", impl.SetPut(l, last), append(slices.Clone(l), last))
		for i, old := range l {
			after := goneKey(old.Blk, old.Age+1)
			expectKeys(t, "SetPut between keys", impl.SetPut(l, after), slices.Insert(slices.Clone(l), i+1, after))
		}
	}
}

func TestSetPutReplacesInPlace(t *testing.T) {
	for _, n := range []int{1, 2, 7, 60, 61} {
		for i := range n {
			l := runOfKeys(n)
			for _, k := range []impl.Key{noneKey(l[i].Blk, l[i].Age), goneKey(l[i].Blk, l[i].Age), dataKey(l[i].Blk, l[i].Age, 23), l[i]} {
				want := slices.Clone(l)
				want[i] = k
				expectKeys(t, "SetPut", impl.SetPut(l, k), want)
			}
		}
	}
}

func TestSetPutHasNoLimit(t *testing.T) {
	full := looseRun(60)
	more := impl.SetPut(full, goneKey(0, 1))
	expectSetOk(t, "60 keys", full, true)
	expectSetOk(t, "61 keys", more, false)
	if len(more) != 61 || more[0] != goneKey(0, 1) {
		t.Errorf("SetPut into a set of 60 keys = %v", more)
	}
	expectKeys(t, "SetPut into a set of 61 keys", impl.SetPut(more, goneKey(15, 60)), append(slices.Clone(more), goneKey(15, 60)))
	same := impl.SetPut(full, goneKey(full[59].Blk, full[59].Age))
	expectSetOk(t, "60 keys, one replaced", same, true)
}

func TestSetPutRemovesAllOfOnePosition(t *testing.T) {
	l := []impl.Key{goneKey(1, 1), dataKey(2, 2, 0), noneKey(2, 2), dataKey(2, 2, 5), goneKey(3, 3), dataKey(2, 2, 6)}
	expectKeys(t, "SetPut", impl.SetPut(l, goneKey(2, 2)), []impl.Key{goneKey(1, 1), goneKey(2, 2), goneKey(3, 3)})
	expectKeys(t, "SetPut", impl.SetPut(l[1:4], noneKey(2, 2)), []impl.Key{noneKey(2, 2)})
	kept := impl.SetPut(l, goneKey(2, 1))
	expectKeys(t, "SetPut at another position", kept, slices.Insert(slices.Clone(l), 1, goneKey(2, 1)))
}

func TestSetPutIntoUnsortedLists(t *testing.T) {
	one, three, four, five := goneKey(1, 1), goneKey(3, 1), goneKey(4, 1), goneKey(5, 1)
	rows := []struct{ l, want []impl.Key }{
		{[]impl.Key{five, one, four}, []impl.Key{noneKey(3, 1), five, one, four}},
		{[]impl.Key{five, one, three, four}, []impl.Key{noneKey(3, 1), five, one, four}},
		{[]impl.Key{one, five, three, one}, []impl.Key{one, noneKey(3, 1), five, one}},
		// The key that marks the place is itself removed.
		{[]impl.Key{one, three, one, five}, []impl.Key{one, noneKey(3, 1), one, five}},
		{[]impl.Key{three, one, one}, []impl.Key{noneKey(3, 1), one, one}},
		{[]impl.Key{three, one, three, one}, []impl.Key{noneKey(3, 1), one, one}},
		{[]impl.Key{one, one}, []impl.Key{one, one, noneKey(3, 1)}},
	}
	for _, r := range rows {
		expectKeys(t, "SetPut", impl.SetPut(r.l, noneKey(3, 1)), r.want)
	}
}

func TestSetPutForEachShortList(t *testing.T) {
	for _, l := range shortLists(5) {
		for blk := 2; blk <= 5; blk++ {
			for age := 7; age <= 10; age++ {
				for _, k := range []impl.Key{noneKey(blk, age), dataKey(blk, age, 20)} {
					if got, want := impl.SetPut(l, k), putInto(l, k); !slices.Equal(got, want) {
						t.Fatalf("SetPut(%v, %v) = %v, want %v", l, k, got, want)
					}
				}
			}
		}
	}
}

func TestSetPutOfInvalidKeys(t *testing.T) {
	l := []impl.Key{goneKey(3, 9), dataKey(4, 5, 1), goneKey(5, 1)}
	for _, k := range invalidKeys() {
		expectKeys(t, "SetPut of an invalid key", impl.SetPut(l, k), putInto(l, k))
		expectKeys(t, "SetPut among invalid keys", impl.SetPut(invalidKeys(), k), putInto(invalidKeys(), k))
	}
}

func TestMergeTakesTheNewerKey(t *testing.T) {
	old := []impl.Key{dataKey(1, 1, 1), dataKey(1, 2, 2), noneKey(2, 1), goneKey(2, 2), dataKey(5, 5, 5)}
	newer := []impl.Key{goneKey(0, 9), noneKey(1, 2), dataKey(2, 1, 9), dataKey(2, 2, 10), goneKey(3, 3), goneKey(6, 6)}
	want := []impl.Key{
		goneKey(0, 9), dataKey(1, 1, 1), noneKey(1, 2), dataKey(2, 1, 9), dataKey(2, 2, 10), goneKey(3, 3),
		dataKey(5, 5, 5), goneKey(6, 6),
	}
	expectKeys(t, "MergeSets", impl.MergeSets(old, newer), want)
	// The other way round, the other keys are newer.
	want = []impl.Key{
		goneKey(0, 9), dataKey(1, 1, 1), dataKey(1, 2, 2), noneKey(2, 1), goneKey(2, 2), goneKey(3, 3),
		dataKey(5, 5, 5), goneKey(6, 6),
	}
	expectKeys(t, "MergeSets", impl.MergeSets(newer, old), want)
}

func TestMergeForEachPairOfKeys(t *testing.T) {
	for _, a := range sampleKeys() {
		for _, b := range sampleKeys() {
			b.Blk, b.Age = a.Blk, a.Age
			expectKeys(t, "MergeSets of one position", impl.MergeSets([]impl.Key{a}, []impl.Key{b}), []impl.Key{b})
		}
	}
}

func TestMergeWithEmptySets(t *testing.T) {
	for _, empty := range [][]impl.Key{nil, {}} {
		for _, n := range []int{0, 1, 5, 60, 61} {
			l := runOfKeys(n)
			expectKeys(t, "MergeSets of nothing new", impl.MergeSets(l, empty), l)
			expectKeys(t, "MergeSets of nothing old", impl.MergeSets(empty, l), l)
		}
	}
	messy := []impl.Key{goneKey(3, 3), goneKey(1, 1), noneKey(3, 3), {}}
	expectKeys(t, "an old list in disorder stays", impl.MergeSets(messy, nil), messy)
	expectKeys(t, "a new list in disorder is sorted", impl.MergeSets(nil, messy), []impl.Key{{}, goneKey(1, 1), noneKey(3, 3)})
}

func TestMergeKeepsDeletions(t *testing.T) {
	old := looseRun(10)
	var deleted []impl.Key
	for _, k := range old {
		deleted = append(deleted, noneKey(k.Blk, k.Age))
	}
	merged := impl.MergeSets(old, deleted)
	expectKeys(t, "all keys deleted", merged, deleted)
	expectKeys(t, "Drop of deletions", impl.Drop(merged), nil)
	expectKeys(t, "deletions merged", impl.MergeSets(deleted, deleted), deleted)
	expectKeys(t, "keys put again", impl.MergeSets(deleted, old), old)
	half := impl.MergeSets(old, deleted[5:])
	expectKeys(t, "half of the keys deleted", half, append(slices.Clone(old[:5]), deleted[5:]...))
	expectKeys(t, "Drop of half of the keys", impl.Drop(half), old[:5])
	expectKeys(t, "a deletion of nothing", impl.MergeSets(nil, deleted[:1]), deleted[:1])
}

func TestMergeOfFullSets(t *testing.T) {
	all := runOfKeys(120)
	var even, odd []impl.Key
	for i, k := range all {
		if i%2 == 0 {
			even = append(even, k)
		} else {
			odd = append(odd, k)
		}
	}
	expectKeys(t, "60 and 60 other keys", impl.MergeSets(even, odd), all)
	expectKeys(t, "60 and 60 other keys", impl.MergeSets(odd, even), all)
	expectKeys(t, "60 keys and one behind them", impl.MergeSets(all[:60], all[60:61]), all[:61])
	expectKeys(t, "60 keys and one before them", impl.MergeSets(all[1:61], all[:1]), all[:61])
	expectSetOk(t, "61 merged keys", impl.MergeSets(all[:60], all[60:61]), false)
	expectSetOk(t, "60 merged keys", impl.MergeSets(all[:60], all[30:60]), true)
}

func TestMergeTakesTheLastOfSeveralNewKeys(t *testing.T) {
	newer := []impl.Key{dataKey(2, 2, 1), goneKey(1, 1), dataKey(2, 2, 2), noneKey(1, 1), dataKey(2, 2, 3)}
	expectKeys(t, "MergeSets", impl.MergeSets([]impl.Key{dataKey(2, 2, 0), goneKey(4, 4)}, newer),
		[]impl.Key{noneKey(1, 1), dataKey(2, 2, 3), goneKey(4, 4)})
	old := []impl.Key{dataKey(2, 2, 8), dataKey(2, 2, 9), goneKey(4, 4), dataKey(2, 2, 10)}
	expectKeys(t, "MergeSets", impl.MergeSets(old, newer[:1]), []impl.Key{dataKey(2, 2, 1), goneKey(4, 4)})
	expectKeys(t, "MergeSets", impl.MergeSets(old, newer[1:2]), append([]impl.Key{goneKey(1, 1)}, old...))
}

func TestMergeForEachPairOfShortLists(t *testing.T) {
	for _, old := range shortLists(3) {
		for _, newer := range shortLists(3) {
			newer = slices.Clone(newer)
			want := old
			for i := range newer {
				newer[i].Cell += 10
				want = putInto(want, newer[i])
			}
			if got := impl.MergeSets(old, newer); !slices.Equal(got, want) {
				t.Fatalf("MergeSets(%v, %v) = %v, want %v", old, newer, got, want)
			}
		}
	}
}

// subset returns the keys of l whose index is a bit of bits.
func subset(l []impl.Key, bits int) []impl.Key {
	var out []impl.Key
	for i, k := range l {
		if bits>>i&1 == 1 {
			out = append(out, k)
		}
	}
	return out
}

func TestMergeForEachPairOfSubsets(t *testing.T) {
	older, newest := runOfKeys(7), runOfKeys(7)
	for i := range newest {
		newest[i] = impl.Key{Blk: newest[i].Blk, Age: newest[i].Age, Kind: (i + 1) % 3}
	}
	for a := range 128 {
		for b := range 128 {
			merged := impl.MergeSets(subset(older, a), subset(newest, b))
			expectSetOk(t, "merged sets", merged, true)
			var want []impl.Key
			for i := range older {
				if b>>i&1 == 1 {
					want = append(want, newest[i])
				} else if a>>i&1 == 1 {
					want = append(want, older[i])
				}
			}
			expectKeys(t, "MergeSets", merged, want)
		}
	}
}

func TestMergeOfInvalidKeys(t *testing.T) {
	var want []impl.Key
	for _, k := range invalidKeys() {
		want = putInto(want, k)
	}
	expectKeys(t, "MergeSets", impl.MergeSets(nil, invalidKeys()), want)
	expectKeys(t, "MergeSets", impl.MergeSets(invalidKeys(), []impl.Key{goneKey(4, 5)}), putInto(invalidKeys(), goneKey(4, 5)))
}

func TestDropForEachSubset(t *testing.T) {
	l := runOfKeys(9)
	for bits := range 1 << len(l) {
		var want []impl.Key
		for _, k := range subset(l, bits) {
			if k.Kind == impl.KData || k.Kind == impl.KGone {
				want = append(want, k)
			}
		}
		expectKeys(t, "Drop", impl.Drop(subset(l, bits)), want)
	}
	expectKeys(t, "Drop of nothing", impl.Drop(nil), nil)
}

func TestDropOfDeletionsOnly(t *testing.T) {
	for _, n := range []int{1, 2, 60, 61, 200} {
		l := runOfKeys(n)
		for i, k := range l {
			l[i] = noneKey(k.Blk, k.Age)
		}
		expectKeys(t, "Drop of deletions", impl.Drop(l), nil)
		for i, k := range l {
			l[i] = goneKey(k.Blk, k.Age)
		}
		expectKeys(t, "Drop of none", impl.Drop(l), l)
	}
}

func TestDropKeepsAllOthers(t *testing.T) {
	l := []impl.Key{
		goneKey(9, 9), noneKey(9, 9), dataKey(1, 1, 0), noneKey(1, 1), dataKey(1, 1, 0), {Kind: 3}, {}, {Kind: -1},
		{Cell: 1, Gen: 1}, {Blk: 99, Age: 99, Kind: impl.KData, Cell: 99}, {Kind: math.MinInt}, {Kind: math.MaxInt},
	}
	want := []impl.Key{
		goneKey(9, 9), dataKey(1, 1, 0), dataKey(1, 1, 0), {Kind: 3}, {Kind: -1},
		{Blk: 99, Age: 99, Kind: impl.KData, Cell: 99}, {Kind: math.MinInt}, {Kind: math.MaxInt},
	}
	expectKeys(t, "Drop", impl.Drop(l), want)
}

func TestDropStopsAtTheLength(t *testing.T) {
	l := looseRun(5)
	expectKeys(t, "Drop", impl.Drop(l[:3]), looseRun(3))
	expectKeys(t, "MergeSets", impl.MergeSets(l[:2], l[2:3]), looseRun(3))
	expectKeys(t, "SetPut", impl.SetPut(l[:2], l[2]), looseRun(3))
}

// roomy returns a copy of l with spare capacity that holds keys.
func roomy(l []impl.Key) []impl.Key {
	out := append(slices.Clone(l), dataKey(9, 9, 9), dataKey(9, 10, 9), dataKey(9, 11, 9))
	return out[:len(l)]
}

// keyCalls returns the results of all calls of chapter 4 that return keys, those
// that have nothing to do included.
func keyCalls(a, b []impl.Key) [][]impl.Key {
	return [][]impl.Key{
		impl.SetPut(a, goneKey(0, 1)), impl.SetPut(a, goneKey(15, 60)), impl.SetPut(a, goneKey(3, 8)), impl.SetPut(a, dataKey(3, 8, 0)),
		impl.MergeSets(a, b), impl.MergeSets(b, a), impl.MergeSets(a, a), impl.MergeSets(a, nil), impl.MergeSets(nil, a),
		impl.MergeSets(a, a[:0]), impl.MergeSets(a[:0], a), impl.Drop(a), impl.Drop(b),
	}
}

// scratchKeys overwrites l and its spare capacity.
func scratchKeys(l []impl.Key) {
	l = l[:cap(l)]
	for i := range l {
		l[i] = impl.Key{Blk: -5, Age: -5, Kind: -5, Cell: -5, Gen: -5}
	}
}

func TestSetsShareNoMemory(t *testing.T) {
	lists := [][]impl.Key{
		nil, {goneKey(3, 8)}, {noneKey(3, 8)}, looseRun(4), runOfKeys(9), {goneKey(5, 5), noneKey(3, 8), goneKey(3, 8)},
	}
	for _, first := range lists {
		for _, second := range lists {
			for call := range keyCalls(nil, nil) {
				a, b := roomy(first), roomy(second)
				out := keyCalls(a, b)[call]
				want := slices.Clone(out)
				impl.SetOk(a)
				impl.SetAt(a, 3, 8)
				expectKeys(t, "the first argument and its spare capacity", a[:len(a)+3], roomy(first)[:len(a)+3])
				expectKeys(t, "the second argument and its spare capacity", b[:len(b)+3], roomy(second)[:len(b)+3])
				scratchKeys(a)
				scratchKeys(b)
				expectKeys(t, "the result after a change of the arguments", out, want)
				a, b = roomy(first), roomy(second)
				scratchKeys(keyCalls(a, b)[call])
				expectKeys(t, "the first argument after a change of the result", a[:len(a)+3], roomy(first)[:len(a)+3])
				expectKeys(t, "the second argument after a change of the result", b[:len(b)+3], roomy(second)[:len(b)+3])
			}
		}
	}
}
