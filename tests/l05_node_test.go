package tests

import (
	"math"
	"slices"
	"testing"

	"loop.example/g00467/impl"
)

func nodeOf(sets ...[]impl.Key) impl.Node { return impl.Node{Sets: sets} }

func sameNode(a, b impl.Node) bool {
	return slices.EqualFunc(a.Sets, b.Sets, slices.Equal[[]impl.Key])
}

func deepNode(n impl.Node) impl.Node {
	var out impl.Node
	for _, l := range n.Sets {
		out.Sets = append(out.Sets, slices.Clone(l))
	}
	return out
}

func expectNode(t *testing.T, what string, got, want impl.Node) {
	t.Helper()
	if !sameNode(got, want) {
		t.Errorf("%s = %v, want %v", what, got, want)
	}
}

func expectNodeOk(t *testing.T, what string, n impl.Node, want bool) {
	t.Helper()
	if got := impl.NodeOk(n); got != want {
		t.Errorf("%s: NodeOk(%v) = %v, want %v", what, n, got, want)
	}
}

func expectAt(t *testing.T, what string, n impl.Node, want impl.Key) {
	t.Helper()
	if k, ok := impl.NodeAt(n, want.Blk, want.Age); k != want || !ok {
		t.Errorf("%s: NodeAt(%v, %d, %d) = %v, %v, want %v", what, n, want.Blk, want.Age, k, ok, want)
	}
}

func expectNotAt(t *testing.T, what string, n impl.Node, blk, age int) {
	t.Helper()
	if k, ok := impl.NodeAt(n, blk, age); k != (impl.Key{}) || ok {
		t.Errorf("%s: NodeAt(%v, %d, %d) = %v, %v, want the zero Key, false", what, n, blk, age, k, ok)
	}
}

// expectPut expects that k is put into n with the result want.
func expectPut(t *testing.T, what string, n impl.Node, k impl.Key, want impl.Node) {
	t.Helper()
	if got, ok := impl.NodePut(n, k); !ok || !sameNode(got, want) {
		t.Errorf("%s: NodePut(%v, %v) = %v, %v, want %v, true", what, n, k, got, ok, want)
	}
}

// expectNoPut expects that k cannot be put into n.
func expectNoPut(t *testing.T, what string, n impl.Node, k impl.Key) {
	t.Helper()
	if got, ok := impl.NodePut(n, k); ok || !sameNode(got, n) {
		t.Errorf("%s: NodePut(%v, %v) = %v, %v, want the node and false", what, n, k, got, ok)
	}
}

// cut returns the keys of l in sets of the given lengths.
func cut(l []impl.Key, lens ...int) impl.Node {
	var out impl.Node
	for _, n := range lens {
		out.Sets = append(out.Sets, slices.Clone(l[:n]))
		l = l[n:]
	}
	return out
}

// liveKeys says what NodeKeys returns: what stands last in the order of the
// sets and of the keys in a set counts, and a deletion leaves nothing.
func liveKeys(n impl.Node) []impl.Key {
	type spot struct{ blk, age int }
	newest := map[spot]impl.Key{}
	for _, l := range n.Sets {
		for _, k := range l {
			newest[spot{k.Blk, k.Age}] = k
		}
	}
	var out []impl.Key
	for _, k := range newest {
		if k.Kind != impl.KNone {
			out = append(out, k)
		}
	}
	slices.SortFunc(out, func(a, b impl.Key) int {
		if ahead(a, b) {
			return -1
		}
		return 1
	})
	return out
}

// validNode says what NodeOk returns.
func validNode(n impl.Node) bool {
	total, ok := 0, len(n.Sets) <= 3
	for _, l := range n.Sets {
		ok = ok && len(l) > 0
		total += len(l)
		for i, k := range l {
			ok = ok && validKey(k) && (i == 0 || ahead(l[i-1], k))
		}
	}
	return ok && total <= 8
}

// afterPut says what NodePut returns, in the words of chapter 5.
func afterPut(n impl.Node, k impl.Key) (impl.Node, bool) {
	added := deepNode(n)
	last := len(n.Sets) - 1
	if last >= 0 && (len(n.Sets[last]) < 4 || slices.ContainsFunc(n.Sets[last], func(x impl.Key) bool { return atSpot(x, k.Blk, k.Age) })) {
		added.Sets[last] = putInto(n.Sets[last], k)
	} else {
		added.Sets = append(added.Sets, []impl.Key{k})
	}
	if validNode(added) {
		return added, true
	}
	keys := liveKeys(nodeOf(liveKeys(n), []impl.Key{k}))
	rebuilt := impl.Node{}
	if len(keys) > 0 {
		rebuilt = nodeOf(keys)
	}
	if len(keys) > 8 || !validNode(rebuilt) {
		return n, false
	}
	return rebuilt, true
}

func expectAfterPut(t *testing.T, n impl.Node, k impl.Key) {
	t.Helper()
	want, is := afterPut(n, k)
	if got, ok := impl.NodePut(n, k); ok != is || !sameNode(got, want) {
		t.Fatalf("NodePut(%v, %v) = %v, %v, want %v, %v", n, k, got, ok, want, is)
	}
}

// eachNode calls f with a node for every choice of up to three sets, not empty,
// from four positions; the kinds of the keys differ from set to set.
func eachNode(f func(n impl.Node)) {
	spots := [][2]int{{3, 8}, {3, 9}, {4, 8}, {4, 9}}
	setOf := func(layer, bits int) []impl.Key {
		var l []impl.Key
		for i, p := range spots {
			switch (layer + i) % 3 {
			case impl.KNone:
				l = append(l, noneKey(p[0], p[1]))
			case impl.KData:
				l = append(l, dataKey(p[0], p[1], 4*layer+i))
			default:
				l = append(l, goneKey(p[0], p[1]))
			}
		}
		return subset(l, bits)
	}
	f(impl.Node{})
	for a := 1; a < 16; a++ {
		f(nodeOf(setOf(0, a)))
		for b := 1; b < 16; b++ {
			f(nodeOf(setOf(0, a), setOf(1, b)))
			for c := 1; c < 16; c++ {
				f(nodeOf(setOf(0, a), setOf(1, b), setOf(2, c)))
			}
		}
	}
}

// messyNodes returns nodes that are not valid.
func messyNodes() []impl.Node {
	out := []impl.Node{
		nodeOf(nil), nodeOf([]impl.Key{}), nodeOf(looseRun(2), nil), nodeOf(nil, looseRun(2)), nodeOf(nil, nil, nil, nil),
		cut(looseRun(4), 1, 1, 1, 1), cut(looseRun(9), 9), cut(looseRun(9), 3, 3, 3), cut(runOfKeys(130), 61, 69),
		nodeOf([]impl.Key{goneKey(2, 1), goneKey(1, 1)}), nodeOf(looseRun(2), []impl.Key{goneKey(1, 2), goneKey(1, 1), noneKey(0, 1)}),
		nodeOf([]impl.Key{goneKey(1, 1), dataKey(1, 1, 3)}), nodeOf([]impl.Key{dataKey(1, 2, 5), noneKey(1, 2)}),
		nodeOf([]impl.Key{noneKey(1, 2), dataKey(1, 2, 5)}, looseRun(3)[1:]),
	}
	for _, k := range invalidKeys() {
		out = append(out, nodeOf([]impl.Key{k}), nodeOf(looseRun(2), []impl.Key{k}), nodeOf([]impl.Key{k}, looseRun(2)))
	}
	return out
}

func TestNodeConstants(t *testing.T) {
	if impl.MaxSets != 3 || impl.MaxIn != 8 {
		t.Errorf("MaxSets, MaxIn = %d, %d, want 3, 8", impl.MaxSets, impl.MaxIn)
	}
}

func TestNodeOkForEachDivision(t *testing.T) {
	expectNodeOk(t, "no sets", impl.Node{}, true)
	expectNodeOk(t, "an empty list of sets", nodeOf(), true)
	l := runOfKeys(44)
	for a := range 12 {
		expectNodeOk(t, "one set", cut(l, a), a > 0 && a <= 8)
		for b := range 12 {
			expectNodeOk(t, "two sets", cut(l, a, b), a > 0 && b > 0 && a+b <= 8)
			for c := range 12 {
				expectNodeOk(t, "three sets", cut(l, a, b, c), a > 0 && b > 0 && c > 0 && a+b+c <= 8)
				expectNodeOk(t, "four sets", cut(l, a, b, c, 1), false)
			}
		}
	}
	expectNodeOk(t, "four sets of one key", cut(l, 1, 1, 1, 1), false)
	expectNodeOk(t, "sets of 60 keys", nodeOf(runOfKeys(60)), false)
}

func TestNodeOkCountsHiddenKeys(t *testing.T) {
	l := looseRun(3)
	expectNodeOk(t, "the same two keys thrice", nodeOf(l[:2], l[:2], l[:2]), true)
	expectNodeOk(t, "the same three keys thrice", nodeOf(l, l, l), false)
	expectNodeOk(t, "the same keys thrice, 8 in total", nodeOf(l, l, l[:2]), true)
	deleted := []impl.Key{noneKey(l[0].Blk, l[0].Age), noneKey(l[1].Blk, l[1].Age), noneKey(l[2].Blk, l[2].Age)}
	expectNodeOk(t, "nothing but deletions", nodeOf(deleted), true)
	expectNodeOk(t, "deletions over keys, 8 in total", nodeOf(l, deleted, l[1:]), true)
	expectNodeOk(t, "deletions over keys, 9 in total", nodeOf(l, deleted, l), false)
}

func TestNodeOkRejectsInvalidSets(t *testing.T) {
	good := [][]impl.Key{{goneKey(3, 9), goneKey(5, 1)}, {dataKey(1, 1, 1)}, {noneKey(15, 60)}}
	expectNodeOk(t, "three good sets", nodeOf(good...), true)
	bad := [][]impl.Key{
		nil, {}, {goneKey(2, 1), goneKey(1, 1)}, {goneKey(1, 2), goneKey(1, 1)}, {goneKey(1, 1), goneKey(1, 1)},
		{goneKey(1, 1), noneKey(1, 1)}, {goneKey(1, 1), goneKey(3, 1), goneKey(2, 1)},
	}
	for _, k := range invalidKeys() {
		bad = append(bad, []impl.Key{k}, putInto(good[0], k))
	}
	for _, l := range bad {
		expectNodeOk(t, "one bad set", nodeOf(l), false)
		for i := range good {
			sets := slices.Clone(good)
			sets[i] = l
			expectNodeOk(t, "one bad set of three", nodeOf(sets...), false)
		}
	}
}

func TestNodeOkForEachSmallNode(t *testing.T) {
	eachNode(func(n impl.Node) { expectNodeOk(t, "a small node", n, validNode(n)) })
	for _, n := range messyNodes() {
		expectNodeOk(t, "a messy node", n, false)
	}
}

func TestNodeOkStopsAtTheLength(t *testing.T) {
	l := looseRun(9)
	expectNodeOk(t, "8 keys and a spare one", nodeOf(l[:8]), true)
	expectNodeOk(t, "an empty set and spare keys", nodeOf(l[:0]), false)
	four := cut(l, 1, 1, 1, 1)
	expectNodeOk(t, "3 sets and a spare one", nodeOf(four.Sets[:3]...), true)
	bad := []impl.Key{goneKey(1, 1), {}}
	expectNodeOk(t, "a spare key that is not valid", nodeOf(bad[:1]), true)
}

func TestNodeAtWithoutSets(t *testing.T) {
	for _, n := range []impl.Node{{}, nodeOf(), nodeOf(nil), nodeOf(nil, []impl.Key{}, nil)} {
		expectNotAt(t, "no keys", n, 0, 0)
		expectNotAt(t, "no keys", n, 1, 1)
		expectNotAt(t, "no keys", n, 15, 60)
	}
}

func TestNodeAtFindsEachKey(t *testing.T) {
	l := looseRun(8)
	for _, n := range []impl.Node{cut(l, 8), cut(l, 4, 4), cut(l, 1, 7), cut(l, 7, 1), cut(l, 3, 3, 2), cut(l, 1, 1, 6)} {
		for _, k := range l {
			expectAt(t, "a key of one set", n, k)
			expectNotAt(t, "an earlier version", n, k.Blk, k.Age-1)
			expectNotAt(t, "a later version", n, k.Blk, k.Age+1)
			expectNotAt(t, "an earlier block", n, k.Blk-1, k.Age)
			expectNotAt(t, "a later block", n, k.Blk+1, k.Age)
		}
		for _, p := range []int{math.MinInt, -1, 0, 61, math.MaxInt} {
			expectNotAt(t, "a block out of range", n, p, 2)
			expectNotAt(t, "a version out of range", n, 1, p)
		}
	}
	// One number for both would mistake these for a position of the node.
	expectNotAt(t, "another block", nodeOf([]impl.Key{goneKey(2, 5)}), 1, 69)
	expectNotAt(t, "another block", nodeOf([]impl.Key{goneKey(2, 5)}), 3, -59)
}

// layersOf returns a node with three sets. Digit i of what, in base 4, is the
// kind of the key at block 5, version 5 in set i, or 3 if the set has none. Each
// set has a key of its own on either side.
func layersOf(what int) (impl.Node, impl.Key, bool) {
	var n impl.Node
	newest, there := impl.Key{}, false
	for i := range 3 {
		k := impl.Key{Blk: 5, Age: 5, Kind: what % 4}
		if k.Kind == impl.KData {
			k.Cell = 10 + i
		}
		l := []impl.Key{goneKey(4, i+1), goneKey(6, i+1)}
		if what%4 != 3 {
			l, newest, there = slices.Insert(l, 1, k), k, true
		}
		n.Sets = append(n.Sets, l)
		what /= 4
	}
	if !there || newest.Kind == impl.KNone {
		return n, impl.Key{}, false
	}
	return n, newest, true
}

func TestTheNewestSetTakesPrecedence(t *testing.T) {
	for what := range 64 {
		n, want, there := layersOf(what)
		if k, ok := impl.NodeAt(n, 5, 5); k != want || ok != there {
			t.Errorf("NodeAt(%v, 5, 5) = %v, %v, want %v, %v", n, k, ok, want, there)
		}
		keys := []impl.Key{goneKey(4, 1), goneKey(4, 2), goneKey(4, 3)}
		if there {
			keys = append(keys, want)
		}
		keys = append(keys, goneKey(6, 1), goneKey(6, 2), goneKey(6, 3))
		expectKeys(t, "NodeKeys", impl.NodeKeys(n), keys)
		expectNode(t, "NodePack", impl.NodePack(n), nodeOf(keys))
	}
}

func TestDeletionsHideOlderKeys(t *testing.T) {
	old := []impl.Key{dataKey(1, 1, 1), goneKey(2, 1), dataKey(3, 1, 3)}
	n := nodeOf(old, []impl.Key{noneKey(1, 1), noneKey(2, 1), noneKey(9, 9)})
	expectNotAt(t, "deleted", n, 1, 1)
	expectNotAt(t, "deleted", n, 2, 1)
	expectNotAt(t, "deleted before it was there", n, 9, 9)
	expectAt(t, "not deleted", n, dataKey(3, 1, 3))
	expectKeys(t, "NodeKeys", impl.NodeKeys(n), old[2:])
	n.Sets = append(n.Sets, []impl.Key{dataKey(1, 1, 7)})
	expectAt(t, "put again", n, dataKey(1, 1, 7))
	expectNotAt(t, "still deleted", n, 2, 1)
	expectKeys(t, "NodeKeys", impl.NodeKeys(n), []impl.Key{dataKey(1, 1, 7), dataKey(3, 1, 3)})
}

func TestLookupForEachSmallNode(t *testing.T) {
	eachNode(func(n impl.Node) {
		want := liveKeys(n)
		expectKeys(t, "NodeKeys", impl.NodeKeys(n), want)
		for blk := 2; blk <= 5; blk++ {
			for age := 7; age <= 10; age++ {
				i := slices.IndexFunc(want, func(k impl.Key) bool { return atSpot(k, blk, age) })
				if i < 0 {
					expectNotAt(t, "a small node", n, blk, age)
				} else {
					expectAt(t, "a small node", n, want[i])
				}
			}
		}
	})
}

func TestLookupInInvalidNodes(t *testing.T) {
	for _, n := range messyNodes() {
		expectKeys(t, "NodeKeys", impl.NodeKeys(n), liveKeys(n))
	}
	expectAt(t, "a later one of five sets", nodeOf(looseRun(1), nil, looseRun(2), nil, []impl.Key{goneKey(1, 2)}), goneKey(1, 2))
	expectAt(t, "one of 61 keys", nodeOf(runOfKeys(61)), runOfKeys(61)[59])
	unsorted := nodeOf([]impl.Key{goneKey(7, 1), goneKey(2, 1), goneKey(5, 1)})
	for _, k := range unsorted.Sets[0] {
		expectAt(t, "a set in disorder", unsorted, k)
	}
	// A lookup takes the first key of a position in a set, a merge the last one.
	twice := nodeOf([]impl.Key{goneKey(1, 1)}, []impl.Key{dataKey(1, 1, 4), noneKey(1, 1), noneKey(2, 2), dataKey(2, 2, 6)})
	expectAt(t, "two keys of one position", twice, dataKey(1, 1, 4))
	expectNotAt(t, "two keys of one position", twice, 2, 2)
	expectKeys(t, "NodeKeys", impl.NodeKeys(twice), []impl.Key{dataKey(2, 2, 6)})
	for _, k := range invalidKeys() {
		if k.Kind == impl.KNone {
			expectNotAt(t, "a key that is not valid", nodeOf([]impl.Key{k}), k.Blk, k.Age)
		} else {
			expectAt(t, "a key that is not valid", nodeOf([]impl.Key{k}), k)
		}
	}
}

func TestLookupStopsAtTheLength(t *testing.T) {
	l := looseRun(4)
	sets := [][]impl.Key{l[:2], {noneKey(l[0].Blk, l[0].Age)}}
	n := nodeOf(sets[:1]...)
	expectAt(t, "a spare deletion", n, l[0])
	expectNotAt(t, "a spare key", n, l[2].Blk, l[2].Age)
	expectKeys(t, "NodeKeys", impl.NodeKeys(n), looseRun(2))
	expectNode(t, "NodeNew", impl.NodeNew(l[:2]), nodeOf(looseRun(2)))
	expectNode(t, "NodeNew of spare keys", impl.NodeNew(l[:0]), impl.Node{})
}

func TestNodeKeysWithoutSets(t *testing.T) {
	for _, n := range []impl.Node{{}, nodeOf(), nodeOf(nil), nodeOf([]impl.Key{noneKey(1, 1)})} {
		expectKeys(t, "NodeKeys", impl.NodeKeys(n), nil)
		expectNode(t, "NodePack", impl.NodePack(n), impl.Node{})
	}
}

func TestNodeNew(t *testing.T) {
	expectNode(t, "NodeNew(nil)", impl.NodeNew(nil), impl.Node{})
	expectNode(t, "NodeNew(empty)", impl.NodeNew([]impl.Key{}), impl.Node{})
	expectNodeOk(t, "NodeNew(nil)", impl.NodeNew(nil), true)
	for n := 1; n < 70; n++ {
		expectNode(t, "NodeNew", impl.NodeNew(runOfKeys(n)), nodeOf(runOfKeys(n)))
		expectNodeOk(t, "NodeNew", impl.NodeNew(runOfKeys(n)), n <= 8)
	}
	// It neither sorts nor drops anything.
	for _, l := range append(shortLists(3)[1:], invalidKeys(), []impl.Key{noneKey(1, 1)}) {
		expectNode(t, "NodeNew", impl.NodeNew(l), nodeOf(l))
	}
}

func TestNodePack(t *testing.T) {
	eachNode(func(n impl.Node) {
		want := impl.Node{}
		if keys := liveKeys(n); len(keys) > 0 {
			want = nodeOf(keys)
		}
		got := impl.NodePack(n)
		expectNode(t, "NodePack", got, want)
		expectNodeOk(t, "NodePack", got, true)
		expectNode(t, "NodePack of a packed node", impl.NodePack(got), want)
	})
	l := looseRun(9)
	expectNode(t, "NodePack of 9 keys", impl.NodePack(cut(l, 3, 3, 3)), nodeOf(l))
	expectNode(t, "NodePack of 4 sets", impl.NodePack(cut(l, 1, 2, 1, 2)), nodeOf(l[:6]))
	expectNode(t, "NodePack of empty sets", impl.NodePack(nodeOf(nil, l[:1], nil)), nodeOf(l[:1]))
	expectNode(t, "NodePack of disorder", impl.NodePack(nodeOf([]impl.Key{l[2], l[0], l[1]})), nodeOf(l[:3]))
}

func TestNodePutIntoNoSets(t *testing.T) {
	for _, k := range sampleKeys() {
		expectPut(t, "no sets", impl.Node{}, k, nodeOf([]impl.Key{k}))
		expectPut(t, "an empty list of sets", nodeOf(), k, nodeOf([]impl.Key{k}))
	}
	expectPut(t, "a deletion of nothing", impl.Node{}, noneKey(1, 1), nodeOf([]impl.Key{noneKey(1, 1)}))
}

func TestNodePutFillsTheLastSet(t *testing.T) {
	l := looseRun(8)
	for size := 1; size <= 3; size++ {
		for i := range size + 1 {
			keys := slices.Delete(slices.Clone(l[:size+1]), i, i+1)
			expectPut(t, "a short set", nodeOf(keys), l[i], nodeOf(l[:size+1]))
			expectPut(t, "a short set behind others", nodeOf(l[5:], keys), l[i], nodeOf(l[5:], l[:size+1]))
		}
	}
	for size := 4; size <= 7; size++ {
		for i := range size + 1 {
			keys := slices.Delete(slices.Clone(l[:size+1]), i, i+1)
			expectPut(t, "a filled set", nodeOf(keys), l[i], nodeOf(keys, l[i:i+1]))
		}
	}
	expectPut(t, "3 keys behind 4", cut(l, 4, 3), l[7], cut(l, 4, 4))
	expectPut(t, "4 keys behind 3", cut(l, 3, 4), l[7], cut(l, 3, 4, 1))
	expectPut(t, "the third set", cut(l, 4, 1, 2), l[7], cut(l, 4, 1, 3))
	expectPut(t, "an earlier set with room", cut(l, 1, 4), l[5], cut(l, 1, 4, 1))
}

func TestNodePutAtAPositionOfTheLastSet(t *testing.T) {
	l := looseRun(8)
	for _, n := range []impl.Node{cut(l, 1), cut(l, 3), cut(l, 4), cut(l, 5), cut(l, 8), cut(l, 4, 4), cut(l, 1, 7), cut(l, 1, 1, 6)} {
		last := len(n.Sets) - 1
		for i, old := range n.Sets[last] {
			for _, k := range []impl.Key{noneKey(old.Blk, old.Age), goneKey(old.Blk, old.Age), dataKey(old.Blk, old.Age, 23), old} {
				want := deepNode(n)
				want.Sets[last][i] = k
				expectPut(t, "in its place", n, k, want)
			}
		}
	}
	deleted := nodeOf([]impl.Key{goneKey(1, 1), noneKey(2, 2), noneKey(3, 3), goneKey(4, 4)})
	expectPut(t, "in the place of a deletion", deleted, goneKey(3, 3),
		nodeOf([]impl.Key{goneKey(1, 1), noneKey(2, 2), goneKey(3, 3), goneKey(4, 4)}))
}

func TestNodePutAtAPositionOfAnEarlierSet(t *testing.T) {
	l := looseRun(7)
	for i, old := range l[:3] {
		for _, k := range []impl.Key{noneKey(old.Blk, old.Age), goneKey(old.Blk, old.Age), dataKey(old.Blk, old.Age, 23)} {
			// The earlier set keeps its key, which the new one hides.
			n := cut(l, 3, 1)
			expectPut(t, "a last set with room", n, k, nodeOf(l[:3], []impl.Key{k, l[3]}))
			n = cut(l, 3, 4)
			expectPut(t, "a filled last set", n, k, nodeOf(l[:3], l[3:], []impl.Key{k}))
			got, _ := impl.NodePut(n, k)
			if k.Kind == impl.KNone {
				expectNotAt(t, "deleted", got, k.Blk, k.Age)
				expectKeys(t, "NodeKeys", impl.NodeKeys(got), slices.Delete(slices.Clone(l), i, i+1))
			} else {
				expectAt(t, "replaced", got, k)
			}
		}
	}
}

func TestNodePutRebuilds(t *testing.T) {
	l := looseRun(10)
	expectPut(t, "a filled third set", cut(l, 1, 1, 4), l[6], nodeOf(l[:7]))
	expectPut(t, "a filled third set", cut(l, 1, 2, 4), l[7], nodeOf(l[:8]))
	n := nodeOf(l[:4], l[1:5])
	expectPut(t, "8 keys, three of them hidden", n, l[5], nodeOf(l[:6]))
	expectPut(t, "8 keys, a hidden one replaced", n, goneKey(l[0].Blk, l[0].Age), nodeOf([]impl.Key{goneKey(l[0].Blk, l[0].Age), l[1], l[2], l[3], l[4]}))
	expectPut(t, "8 keys, one deleted", cut(l, 4, 4), noneKey(l[1].Blk, l[1].Age), nodeOf(slices.Delete(looseRun(8), 1, 2)))
	expectPut(t, "8 keys, a deletion of nothing", cut(l, 4, 4), noneKey(0, 1), nodeOf(l[:8]))
	expectPut(t, "8 keys, one replaced", cut(l, 4, 4), goneKey(l[0].Blk, l[0].Age), nodeOf(putInto(l[:8], goneKey(l[0].Blk, l[0].Age))))
	deletions := []impl.Key{noneKey(1, 1), noneKey(2, 2), noneKey(3, 3), noneKey(4, 4)}
	n = nodeOf(deletions, deletions)
	expectPut(t, "8 deletions", n, goneKey(5, 5), nodeOf([]impl.Key{goneKey(5, 5)}))
	expectPut(t, "8 deletions and one more", n, noneKey(5, 5), impl.Node{})
	n = nodeOf([]impl.Key{goneKey(5, 5)}, deletions[:3], deletions)
	expectPut(t, "the only key deleted", n, noneKey(5, 5), impl.Node{})
	expectPut(t, "8 keys in one set, one deleted there", nodeOf(l[:8]), noneKey(l[0].Blk, l[0].Age), nodeOf(putInto(l[:8], noneKey(l[0].Blk, l[0].Age))))
}

func TestNodePutIntoAFullNode(t *testing.T) {
	l := looseRun(9)
	for i := range l {
		rest := slices.Delete(slices.Clone(l), i, i+1)
		for _, n := range []impl.Node{cut(rest, 8), cut(rest, 4, 4), cut(rest, 1, 7), cut(rest, 7, 1), cut(rest, 3, 3, 2), cut(rest, 2, 2, 4)} {
			expectNoPut(t, "a ninth key", n, l[i])
			expectNoPut(t, "a ninth key", n, goneKey(l[i].Blk, l[i].Age))
		}
	}
}

func TestNodePutOfInvalidKeys(t *testing.T) {
	l := looseRun(8)
	for _, k := range invalidKeys() {
		for _, n := range []impl.Node{{}, cut(l, 1), cut(l, 4), cut(l, 2, 2, 3), cut(l, 4, 4)} {
			if k.Kind == impl.KNone {
				// The rebuilt node does not contain a deletion.
				expectPut(t, "a deletion that is not valid", n, k, impl.NodePack(n))
			} else {
				expectNoPut(t, "a key that is not valid", n, k)
			}
		}
	}
}

func TestNodePutIntoInvalidNodes(t *testing.T) {
	l := looseRun(10)
	expectPut(t, "an empty set", nodeOf(nil), l[0], nodeOf(l[:1]))
	expectPut(t, "an empty last set", nodeOf(l[:4], nil), l[4], cut(l, 4, 1))
	expectPut(t, "an empty first set", nodeOf(nil, l[:1]), l[1], nodeOf(l[:2]))
	expectPut(t, "four sets", cut(l, 1, 1, 1, 1), l[4], nodeOf(l[:5]))
	expectPut(t, "9 keys, one deleted", cut(l, 9), noneKey(l[8].Blk, l[8].Age), nodeOf(l[:8]))
	expectPut(t, "a set in disorder", nodeOf([]impl.Key{l[2], l[0]}), l[1], nodeOf(l[:3]))
	expectPut(t, "a repeated position", nodeOf([]impl.Key{goneKey(1, 2), l[0]}), l[1], nodeOf(l[:2]))
	expectPut(t, "a repeated position, replaced", nodeOf([]impl.Key{goneKey(1, 2), l[0]}), l[0], nodeOf(l[:1]))
	expectNoPut(t, "9 keys, one replaced", cut(l, 9), l[8])
	expectNoPut(t, "9 keys and one more", cut(l, 3, 3, 3), l[9])
	expectNoPut(t, "a key that is not valid", nodeOf([]impl.Key{{Blk: 16, Age: 1, Kind: impl.KGone}}), l[0])
	expectPut(t, "a key that is not valid, replaced", nodeOf([]impl.Key{{Blk: 1, Age: 2, Kind: 3}}), l[0], nodeOf(l[:1]))
	expectPut(t, "a deletion that is not valid", nodeOf([]impl.Key{{}}), l[0], nodeOf(l[:1]))
	for _, n := range messyNodes() {
		for _, k := range append(invalidKeys(), noneKey(1, 1), goneKey(1, 2), dataKey(2, 1, 1), goneKey(15, 60)) {
			expectAfterPut(t, n, k)
		}
	}
}

func TestNodePutStopsAtTheLength(t *testing.T) {
	l := looseRun(6)
	expectPut(t, "a set of 3 keys and spare ones", nodeOf(l[:3]), l[3], nodeOf(looseRun(4)))
	expectPut(t, "a spare key at the position", nodeOf(l[:4]), l[4], cut(looseRun(5), 4, 1))
	sets := cut(l, 4, 1).Sets
	expectPut(t, "a spare set", nodeOf(sets[:1]...), l[5], nodeOf(l[:4], l[5:]))
}

func TestNodePutForEachSmallNode(t *testing.T) {
	eachNode(func(n impl.Node) {
		for _, p := range [][2]int{{3, 8}, {3, 9}, {4, 8}, {4, 9}, {2, 1}, {4, 1}, {5, 1}} {
			expectAfterPut(t, n, noneKey(p[0], p[1]))
			expectAfterPut(t, n, goneKey(p[0], p[1]))
			expectAfterPut(t, n, dataKey(p[0], p[1], 20))
		}
	})
}

// expectFound expects that k, and nothing but k, changed from before to after.
func expectFound(t *testing.T, before, after impl.Node, k impl.Key) {
	t.Helper()
	for blk := range 16 {
		for age := 1; age <= 3; age++ {
			want, there := impl.NodeAt(before, blk, age)
			if atSpot(k, blk, age) {
				want, there = k, k.Kind != impl.KNone
			}
			if there {
				expectAt(t, "after a put", after, want)
			} else {
				expectNotAt(t, "after a put", after, blk, age)
			}
		}
	}
}

// TestPutKeysAreFound puts keys at 12 positions. A third of them are deletions,
// and fewer in the second half of each thousand, so that nodes become full.
func TestPutKeysAreFound(t *testing.T) {
	n, seed, full, rebuilt := impl.Node{}, uint32(1), 0, 0
	next := func(limit int) int {
		seed = seed*1664525 + 1013904223
		return int(seed>>8) % limit
	}
	for step := range 6000 {
		k := impl.Key{Blk: next(4) * 5, Age: next(3) + 1, Kind: next(3)}
		if k.Kind == impl.KNone && step%1000 > 500 && next(3) > 0 {
			k.Kind = impl.KData
		}
		if k.Kind == impl.KData {
			k.Cell, k.Gen = next(24), next(1000)
		}
		expectAfterPut(t, n, k)
		after, ok := impl.NodePut(n, k)
		keys := liveKeys(nodeOf(impl.NodeKeys(n), []impl.Key{k}))
		if ok != (len(keys) <= 8) {
			t.Fatalf("NodePut(%v, %v): %v, although there are %d keys", n, k, ok, len(keys))
		}
		if !ok {
			full++
			continue
		}
		expectNodeOk(t, "after a put", after, true)
		expectKeys(t, "NodeKeys after a put", impl.NodeKeys(after), keys)
		expectFound(t, n, after, k)
		if len(after.Sets) < len(n.Sets) {
			rebuilt++
		}
		n = after
	}
	if full == 0 || rebuilt == 0 {
		t.Errorf("%d full nodes and %d rebuilt ones: the walk is too short", full, rebuilt)
	}
}

// roomyNode returns a copy of n whose list of sets and whose sets have spare
// capacity that holds something.
func roomyNode(n impl.Node) impl.Node {
	sets := make([][]impl.Key, 0, len(n.Sets)+2)
	for _, l := range n.Sets {
		sets = append(sets, roomy(l))
	}
	sets = append(sets, roomy(looseRun(1)), roomy(looseRun(2)))
	return nodeOf(sets[:len(n.Sets)]...)
}

// expectWhole expects that n, which roomyNode made of old, has not changed, its
// spare capacity included.
func expectWhole(t *testing.T, what string, n, old impl.Node) {
	t.Helper()
	whole := func(n impl.Node) impl.Node {
		var out impl.Node
		for _, l := range n.Sets[:len(n.Sets)+2] {
			out.Sets = append(out.Sets, l[:len(l)+3])
		}
		return out
	}
	expectNode(t, what, whole(n), whole(roomyNode(old)))
}

// scratchNode overwrites all keys of n and its list of sets, with all spare
// capacity.
func scratchNode(n impl.Node) {
	sets := n.Sets[:cap(n.Sets)]
	for i, l := range sets {
		scratchKeys(l)
		sets[i] = nil
	}
}

// nodeCalls returns the results of calls of chapter 5 that return nodes: puts
// that fill a set, start one, replace a key, rebuild the node and fail included.
func nodeCalls(n impl.Node) []impl.Node {
	out := []impl.Node{impl.NodePack(n), impl.NodeNew(impl.NodeKeys(n))}
	for _, k := range []impl.Key{goneKey(1, 2), noneKey(1, 2), goneKey(0, 1), goneKey(15, 60), noneKey(15, 60), {}, {Kind: 3}} {
		x, _ := impl.NodePut(n, k)
		out = append(out, x)
	}
	return out
}

func sharingNodes() []impl.Node {
	l := looseRun(9)
	return []impl.Node{
		{}, cut(l, 1), cut(l, 3), cut(l, 4), cut(l, 8), cut(l, 9), cut(l, 4, 4), cut(l, 3, 2), cut(l, 2, 2, 3), cut(l, 2, 2, 4),
		cut(l, 1, 1, 1, 1), nodeOf(nil), nodeOf(l[:2], l[:2], l[:2]), nodeOf(l[:2], nil),
	}
}

func TestNodesShareNoMemory(t *testing.T) {
	for _, old := range sharingNodes() {
		for call := range nodeCalls(old) {
			n := roomyNode(old)
			out := nodeCalls(n)[call]
			want := deepNode(out)
			impl.NodeOk(n)
			impl.NodeAt(n, 1, 2)
			expectWhole(t, "the argument", n, old)
			scratchNode(n)
			expectNode(t, "the result after a change of the argument", out, want)
			n = roomyNode(old)
			scratchNode(nodeCalls(n)[call])
			expectWhole(t, "the argument after a change of the result", n, old)
		}
	}
}

func TestSetsOfANodeShareNoMemory(t *testing.T) {
	for _, old := range sharingNodes() {
		// In the argument, the sets may lie side by side in one list.
		whole, at := slices.Concat(old.Sets...), 0
		n := impl.Node{}
		for _, l := range old.Sets {
			n.Sets = append(n.Sets, whole[at:at+len(l)])
			at += len(l)
		}
		for call := range nodeCalls(n) {
			for i := range nodeCalls(n)[call].Sets {
				out := nodeCalls(n)[call]
				want := deepNode(out)
				scratchKeys(out.Sets[i])
				out.Sets[i], want.Sets[i] = nil, nil
				expectNode(t, "the other sets after a change of one", out, want)
			}
		}
	}
}

func TestNodeKeysAndNodeNewShareNoMemory(t *testing.T) {
	for _, old := range sharingNodes() {
		n := roomyNode(old)
		keys := impl.NodeKeys(n)
		scratchKeys(keys)
		expectWhole(t, "the argument after a change of the keys", n, old)
		keys = impl.NodeKeys(n)
		scratchNode(n)
		expectKeys(t, "the keys after a change of the argument", keys, liveKeys(old))
	}
	for _, size := range []int{1, 3, 8, 9} {
		l := roomy(looseRun(size))
		scratchNode(impl.NodeNew(l))
		expectKeys(t, "the argument and its spare capacity", l[:size+3], roomy(looseRun(size))[:size+3])
		n := impl.NodeNew(l)
		scratchKeys(l)
		expectNode(t, "the result after a change of the argument", n, nodeOf(looseRun(size)))
	}
}
