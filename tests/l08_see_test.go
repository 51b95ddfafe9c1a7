package tests

import (
	"math"
	"slices"
	"testing"

	"loop.example/g00467/impl"
)

// farNumbers are blocks and versions outside their ranges.
var farNumbers = []int{math.MinInt, -65, -64, -1, 61, 64, 65, 128, math.MaxInt}

// grown returns a tree into which these keys were put one after the other.
func grown(t *testing.T, keys ...impl.Key) impl.Tree {
	t.Helper()
	tr := impl.TreeNew()
	for _, k := range keys {
		next, ok := impl.TreePut(tr, k)
		if !ok {
			t.Fatalf("TreePut(%v, %v) failed", tr, k)
		}
		tr = next
	}
	return tr
}

// loose returns a tree that holds these keys in this order, each in a node of
// its own. It need not be valid.
func loose(keys ...impl.Key) impl.Tree {
	var out impl.Tree
	for i, k := range keys {
		out.Lows, out.Nodes = append(out.Lows, i), append(out.Nodes, nodeOf([]impl.Key{k}))
	}
	return out
}

// familyTree returns mappings for the versions of family: of block 0 in 2, 5, 6
// and 7; of block 3 in 5; of block 4 in 2 and 20, and in 40, which is no
// version; of block 9 in 7 and 8. Block 1 has none.
func familyTree(t *testing.T) impl.Tree {
	t.Helper()
	return grown(t,
		dataKey(0, 2, 1), goneKey(0, 5), dataKey(0, 6, 2), dataKey(0, 7, 3),
		dataKey(3, 5, 4),
		dataKey(4, 2, 5), dataKey(4, 20, 6), dataKey(4, 40, 7),
		dataKey(9, 7, 8), goneKey(9, 8))
}

// keysIn says what KeysOf returns for a tree with these keys.
func keysIn(keys []impl.Key, blk int) []impl.Key {
	var out []impl.Key
	for _, k := range keys {
		if k.Blk == blk {
			out = append(out, k)
		}
	}
	return out
}

// keyAt returns the first of these keys at a position.
func keyAt(keys []impl.Key, blk, age int) (impl.Key, bool) {
	i := slices.IndexFunc(keys, func(k impl.Key) bool { return atSpot(k, blk, age) })
	if i < 0 {
		return impl.Key{}, false
	}
	return keys[i], true
}

// greatestOn says what is seen of these keys on a path, in the words of chapter
// 8: it asks for the versions of the path, the greatest one first.
func greatestOn(keys []impl.Key, path []int, blk int) (impl.Key, bool) {
	path = slices.Sorted(slices.Values(path))
	for _, age := range slices.Backward(path) {
		if k, ok := keyAt(keys, blk, age); ok {
			return k, true
		}
	}
	return impl.Key{}, false
}

// inherited says what is seen of these keys in the words of promise 8: a
// version without a mapping leaves the answer to its parent. The list of
// versions is valid.
func inherited(keys []impl.Key, l []impl.Age, blk, id int) (impl.Key, bool) {
	at := firstWith(l, id)
	if at < 0 {
		return impl.Key{}, false
	}
	if k, ok := keyAt(keys, blk, id); ok {
		return k, true
	}
	return inherited(keys, l, blk, l[at].From)
}

func expectKeysOf(t *testing.T, what string, tr impl.Tree, blk int, want ...impl.Key) {
	t.Helper()
	if got := impl.KeysOf(tr, blk); !slices.Equal(got, want) {
		t.Errorf("%s: KeysOf(%v, %d) = %v, want %v", what, tr, blk, got, want)
	}
}

// expectSeen expects that the version sees the key want.
func expectSeen(t *testing.T, what string, tr impl.Tree, l []impl.Age, id int, want impl.Key) {
	t.Helper()
	if k, ok := impl.Seen(tr, l, want.Blk, id); k != want || !ok {
		t.Errorf("%s: Seen(%v, %v, %d, %d) = %v, %v, want %v", what, tr, l, want.Blk, id, k, ok, want)
	}
}

func expectUnseen(t *testing.T, what string, tr impl.Tree, l []impl.Age, blk, id int) {
	t.Helper()
	if k, ok := impl.Seen(tr, l, blk, id); k != (impl.Key{}) || ok {
		t.Errorf("%s: Seen(%v, %v, %d, %d) = %v, %v, want the zero Key, false", what, tr, l, blk, id, k, ok)
	}
}

// expectAbove expects that the version would inherit the key want.
func expectAbove(t *testing.T, what string, tr impl.Tree, l []impl.Age, id int, want impl.Key) {
	t.Helper()
	if k, ok := impl.SeenAbove(tr, l, want.Blk, id); k != want || !ok {
		t.Errorf("%s: SeenAbove(%v, %v, %d, %d) = %v, %v, want %v", what, tr, l, want.Blk, id, k, ok, want)
	}
}

func expectNoneAbove(t *testing.T, what string, tr impl.Tree, l []impl.Age, blk, id int) {
	t.Helper()
	if k, ok := impl.SeenAbove(tr, l, blk, id); k != (impl.Key{}) || ok {
		t.Errorf("%s: SeenAbove(%v, %v, %d, %d) = %v, %v, want the zero Key, false", what, tr, l, blk, id, k, ok)
	}
}

func expectSees(t *testing.T, what string, tr impl.Tree, l []impl.Age, k impl.Key, id int, want bool) {
	t.Helper()
	if got := impl.Sees(tr, l, k, id); got != want {
		t.Errorf("%s: Sees(%v, %v, %v, %d) = %v, want %v", what, tr, l, k, id, got, want)
	}
}

// expectSight compares the lookups of a version with the chapter's wording, for
// a tree that holds these keys.
func expectSight(t *testing.T, tr impl.Tree, keys []impl.Key, l []impl.Age, blk, id int) {
	t.Helper()
	path := wayUp(l, id, len(l)+1)
	want, is := greatestOn(keys, path, blk)
	if k, ok := impl.Seen(tr, l, blk, id); k != want || ok != is {
		t.Fatalf("Seen(%v, %v, %d, %d) = %v, %v, want %v, %v", tr, l, blk, id, k, ok, want, is)
	}
	for _, k := range append(keysIn(keys, blk), goneKey(blk, 0), goneKey(blk, id)) {
		expectSees(t, "a key of the block", tr, l, k, id, is && k.Age == want.Age)
	}
	if len(path) > 0 {
		path = path[1:]
	}
	want, is = greatestOn(keys, path, blk)
	if k, ok := impl.SeenAbove(tr, l, blk, id); k != want || ok != is {
		t.Fatalf("SeenAbove(%v, %v, %d, %d) = %v, %v, want %v, %v", tr, l, blk, id, k, ok, want, is)
	}
}

// expectInherited compares the lookups of a version with promise 8, for a tree
// that holds these keys and a valid list of versions.
func expectInherited(t *testing.T, tr impl.Tree, keys []impl.Key, l []impl.Age, blk, id int) {
	t.Helper()
	want, is := inherited(keys, l, blk, id)
	if k, ok := impl.Seen(tr, l, blk, id); k != want || ok != is {
		t.Fatalf("Seen(%v, %v, %d, %d) = %v, %v, want %v, %v", tr, l, blk, id, k, ok, want, is)
	}
	for _, k := range append(keysIn(keys, blk), goneKey(blk, 0), goneKey(blk, id)) {
		expectSees(t, "a key of the block", tr, l, k, id, is && k.Age == want.Age)
	}
	above, is := impl.Key{}, false
	if at := firstWith(l, id); at >= 0 {
		above, is = inherited(keys, l, blk, l[at].From)
	}
	if k, ok := impl.SeenAbove(tr, l, blk, id); k != above || ok != is {
		t.Fatalf("SeenAbove(%v, %v, %d, %d) = %v, %v, want %v, %v", tr, l, blk, id, k, ok, above, is)
	}
}

func TestKeysOf(t *testing.T) {
	tr := familyTree(t)
	expectKeysOf(t, "four versions", tr, 0, dataKey(0, 2, 1), goneKey(0, 5), dataKey(0, 6, 2), dataKey(0, 7, 3))
	expectKeysOf(t, "one version", tr, 3, dataKey(3, 5, 4))
	expectKeysOf(t, "three versions", tr, 4, dataKey(4, 2, 5), dataKey(4, 20, 6), dataKey(4, 40, 7))
	expectKeysOf(t, "two versions", tr, 9, dataKey(9, 7, 8), goneKey(9, 8))
	for _, blk := range []int{1, 2, 5, 8, 10, 14, 15, 16} {
		expectKeysOf(t, "a block without keys", tr, blk)
		expectKeysOf(t, "a new tree", impl.TreeNew(), blk)
	}
	for _, blk := range farNumbers {
		expectKeysOf(t, "a block out of range", tr, blk)
		expectKeysOf(t, "a new tree", impl.TreeNew(), blk)
	}
	expectKeysOf(t, "the first position and the last one", grown(t, goneKey(0, 1), goneKey(15, 60)), 0, goneKey(0, 1))
	expectKeysOf(t, "the first position and the last one", grown(t, goneKey(0, 1), goneKey(15, 60)), 15, goneKey(15, 60))
}

func TestKeysOfBlockInSeveralNodes(t *testing.T) {
	for _, sizes := range [][]int{{0}, {8}, {4, 4}, {0, 7}, {8, 8, 8}, {1, 8, 1, 8, 8}, slices.Repeat([]int{3}, 20)} {
		tr := sized(sizes...)
		expectTreeOk(t, "the tree", tr, true)
		for blk := -1; blk <= 16; blk++ {
			expectKeysOf(t, "a tree of several nodes", tr, blk, keysIn(liveTreeKeys(tr), blk)...)
		}
	}
	// 60 keys of one block, put in another order than theirs.
	var keys []impl.Key
	for i := range 60 {
		keys = append(keys, dataKey(6, i*7%60+1, i%24))
	}
	tr := grown(t, keys...)
	if len(tr.Nodes) < 8 {
		t.Errorf("60 keys in %d nodes", len(tr.Nodes))
	}
	expectKeysOf(t, "60 versions", tr, 6, liveKeys(nodeOf(keys))...)
	expectKeysOf(t, "a block ahead of 60 keys", tr, 5)
	expectKeysOf(t, "a block behind 60 keys", tr, 7)
}

func TestKeysOfLayersAndDeletions(t *testing.T) {
	tr := impl.Tree{Lows: []int{0}, Nodes: []impl.Node{nodeOf(
		[]impl.Key{dataKey(2, 3, 1), dataKey(2, 5, 2), dataKey(2, 9, 3)},
		[]impl.Key{dataKey(1, 5, 4), noneKey(2, 3), dataKey(2, 4, 5)},
		[]impl.Key{goneKey(2, 9), noneKey(2, 60)})}}
	expectTreeOk(t, "the tree", tr, true)
	expectKeysOf(t, "a key deleted, one replaced", tr, 2, dataKey(2, 4, 5), dataKey(2, 5, 2), goneKey(2, 9))
	expectKeysOf(t, "another block", tr, 1, dataKey(1, 5, 4))
	expectKeysOf(t, "all keys deleted", grown(t, dataKey(2, 3, 1), goneKey(2, 4), noneKey(2, 4), noneKey(2, 3)), 2)
	expectKeysOf(t, "put again", grown(t, dataKey(2, 3, 1), noneKey(2, 3), dataKey(2, 3, 8)), 2, dataKey(2, 3, 8))
}

func TestKeysOfInvalidTrees(t *testing.T) {
	for _, tr := range append(messyTrees(), sharingTrees()...) {
		keys := liveTreeKeys(tr)
		for blk := -2; blk <= 17; blk++ {
			expectKeysOf(t, "a messy tree", tr, blk, keysIn(keys, blk)...)
		}
		for _, blk := range farNumbers {
			expectKeysOf(t, "a messy tree", tr, blk, keysIn(keys, blk)...)
		}
	}
	// The order of the nodes counts, and no key is left out.
	a, b, c := dataKey(4, 9, 1), goneKey(4, 3), dataKey(4, 9, 2)
	expectKeysOf(t, "keys in disorder", loose(a, goneKey(3, 3), b, c, a), 4, a, b, c, a)
	expectKeysOf(t, "no bounds", impl.Tree{Nodes: []impl.Node{nodeOf([]impl.Key{b, a})}}, 4, b, a)
	expectKeysOf(t, "bounds only", impl.Tree{Lows: []int{0, 256}}, 4)
	for _, blk := range append(farNumbers, 16) {
		k := impl.Key{Blk: blk, Age: 5, Kind: impl.KGone}
		expectKeysOf(t, "a block out of range", loose(goneKey(0, 5), k), blk, k)
		expectKeysOf(t, "another block", loose(goneKey(0, 5), k), 0, goneKey(0, 5))
	}
	// These two keys have the same position number.
	expectKeysOf(t, "one number", loose(goneKey(1, 5), goneKey(0, 69)), 1, goneKey(1, 5))
	expectKeysOf(t, "one number", loose(goneKey(1, 5), goneKey(0, 69)), 0, goneKey(0, 69))
	expectKeysOf(t, "kinds that do not exist", loose(impl.Key{Blk: 1, Age: 2, Kind: 3}, impl.Key{Blk: 1, Age: 3, Kind: -1}, noneKey(1, 4)), 1,
		impl.Key{Blk: 1, Age: 2, Kind: 3}, impl.Key{Blk: 1, Age: 3, Kind: -1})
}

func TestKeysOfStopsAtTheLength(t *testing.T) {
	tr := sized(4, 4)
	tr.Nodes = tr.Nodes[:1]
	expectKeysOf(t, "a spare node", tr, 1, looseRun(4)...)
	tr.Nodes[0].Sets[0] = tr.Nodes[0].Sets[0][:2]
	expectKeysOf(t, "spare keys", tr, 1, looseRun(2)...)
	tr.Nodes[0].Sets = tr.Nodes[0].Sets[:0]
	expectKeysOf(t, "a spare set", tr, 1)
}

func TestSeenOfAFamily(t *testing.T) {
	tr, l := familyTree(t), family()
	for _, c := range []struct {
		what string
		id   int
		want impl.Key
	}{
		{"its own, without a parent", 2, dataKey(0, 2, 1)}, {"its own, not that of the parent", 5, goneKey(0, 5)},
		{"its own, not those of two ancestors", 6, dataKey(0, 6, 2)}, {"its own, of another root", 7, dataKey(0, 7, 3)},
		{"that of the parent, a root", 8, dataKey(0, 7, 3)}, {"that of the parent, not of a farther one", 9, goneKey(0, 5)},
		{"that of the nearest of three", 20, dataKey(0, 6, 2)}, {"that of the parent, not of greater versions", 30, dataKey(0, 2, 1)},
		{"its own alone", 5, dataKey(3, 5, 4)}, {"that of the parent alone", 6, dataKey(3, 5, 4)},
		{"that of the parent alone", 9, dataKey(3, 5, 4)}, {"that of a farther ancestor alone", 20, dataKey(3, 5, 4)},
		{"its own, far from the next", 20, dataKey(4, 20, 6)}, {"that of a farther ancestor", 6, dataKey(4, 2, 5)},
		{"that of the parent, not of a cousin", 30, dataKey(4, 2, 5)}, {"its own, a KGone", 8, goneKey(9, 8)}, {"its own", 7, dataKey(9, 7, 8)},
	} {
		expectSeen(t, c.what, tr, l, c.id, c.want)
	}
	expectUnseen(t, "a mapping of a child only", tr, l, 3, 2)
	expectUnseen(t, "a mapping of a sibling of the parent's", tr, l, 3, 30)
	expectUnseen(t, "mappings of another root's family", tr, l, 3, 8)
	expectUnseen(t, "mappings of another root's family", tr, l, 9, 20)
	expectUnseen(t, "mappings of another root's family", tr, l, 4, 7)
	for _, a := range l {
		expectUnseen(t, "a block without keys", tr, l, 1, a.Id)
		expectUnseen(t, "a new tree", impl.TreeNew(), l, 0, a.Id)
		for _, blk := range append(farNumbers, 16) {
			expectUnseen(t, "a block out of range", tr, l, blk, a.Id)
			expectNoneAbove(t, "a block out of range", tr, l, blk, a.Id)
		}
	}
}

func TestSeenOfNoVersion(t *testing.T) {
	tr, l := familyTree(t), family()
	for _, id := range append(farNumbers, 0, 1, 3, 10, 40, 60) {
		for _, blk := range []int{-1, 0, 1, 3, 4, 9, 16} {
			for _, l := range [][]impl.Age{l, nil, {}} {
				expectUnseen(t, "a version that does not exist", tr, l, blk, id)
				expectNoneAbove(t, "a version that does not exist", tr, l, blk, id)
				for age := range 62 {
					expectSees(t, "a version that does not exist", tr, l, goneKey(blk, age), id, false)
				}
			}
		}
	}
	// The key 4.40 is there, but 40 is no version.
	expectUnseen(t, "a mapping of no version", tr, l, 4, 40)
	expectSees(t, "a mapping of no version", tr, l, dataKey(4, 40, 7), 40, false)
	expectUnseen(t, "a version behind the list", tr, l[:4], 0, 8)
	expectSeen(t, "a parent ahead of the list", tr, l[1:], 20, dataKey(4, 20, 6))
	expectUnseen(t, "a parent ahead of the list", tr, l[1:], 4, 6)
}

func TestSeenAboveOfAFamily(t *testing.T) {
	tr, l := familyTree(t), family()
	for _, c := range []struct {
		what string
		id   int
		want impl.Key
	}{
		{"with one of its own, that of the parent", 5, dataKey(0, 2, 1)}, {"with one of its own, that of the parent", 6, goneKey(0, 5)},
		{"without one, that of the parent", 9, goneKey(0, 5)}, {"without one, that of the parent", 8, dataKey(0, 7, 3)},
		{"without one, the nearest of three", 20, dataKey(0, 6, 2)}, {"without one, not those of greater versions", 30, dataKey(0, 2, 1)},
		{"with one of its own, that of the farthest ancestor", 20, dataKey(4, 2, 5)}, {"without one, that of a farther ancestor", 20, dataKey(3, 5, 4)},
		{"with a KGone of its own", 8, dataKey(9, 7, 8)},
	} {
		expectAbove(t, c.what, tr, l, c.id, c.want)
	}
	for _, blk := range []int{0, 1, 3, 4, 9} {
		expectNoneAbove(t, "a version without a parent", tr, l, blk, 2)
		expectNoneAbove(t, "a version without a parent", tr, l, blk, 7)
	}
	expectNoneAbove(t, "a mapping of its own only", tr, l, 3, 5)
	expectNoneAbove(t, "mappings of no ancestors", tr, l, 3, 30)
	expectNoneAbove(t, "mappings of no ancestors", tr, l, 4, 8)
	expectNoneAbove(t, "a block without keys", tr, l, 1, 20)
	expectNoneAbove(t, "a parent ahead of the list", tr, l[1:], 0, 5)
}

func TestSeesOfAFamily(t *testing.T) {
	tr, l := familyTree(t), family()
	// For each block, the version whose mapping each version sees.
	sees := map[int]map[int]int{
		0: {2: 2, 5: 5, 6: 6, 7: 7, 8: 7, 9: 5, 20: 6, 30: 2}, 3: {5: 5, 6: 5, 9: 5, 20: 5},
		4: {2: 2, 5: 2, 6: 2, 9: 2, 20: 20, 30: 2}, 9: {7: 7, 8: 8},
	}
	for blk := -1; blk <= 17; blk++ {
		for age := -1; age <= 62; age++ {
			for id := -1; id <= 62; id++ {
				want, is := sees[blk][id]
				expectSees(t, "a family", tr, l, goneKey(blk, age), id, is && want == age)
			}
		}
	}
}

func TestSeesComparesThePositionOnly(t *testing.T) {
	tr, l := familyTree(t), family()
	for _, k := range []impl.Key{dataKey(0, 6, 2), {Blk: 0, Age: 6}, goneKey(0, 6), {Blk: 0, Age: 6, Kind: 9, Cell: -1, Gen: math.MaxInt}} {
		expectSees(t, "a key that is seen", tr, l, k, 20, true)
		k.Age = 5
		expectSees(t, "a key that is hidden", tr, l, k, 20, false)
		k.Age = 20
		expectSees(t, "a version without a mapping", tr, l, k, 20, false)
	}
	expectSees(t, "nothing is seen", tr, l, impl.Key{}, 40, false)
	expectSees(t, "nothing is seen", tr, l, impl.Key{Blk: 1}, 20, false)
	expectSees(t, "nothing is seen", impl.TreeNew(), l, impl.Key{}, 20, false)
	expectSees(t, "nothing is seen", impl.Tree{}, nil, impl.Key{}, 0, false)
	for _, n := range farNumbers {
		expectSees(t, "a block out of range", tr, l, goneKey(n, 2), 20, false)
		expectSees(t, "a position out of range", tr, l, goneKey(0, n), 20, false)
		expectSees(t, "a version out of range", tr, l, goneKey(0, 2), n, false)
	}
}

func TestSeenOfEachKind(t *testing.T) {
	l := agesOf(3, 0, 7, 3, 8, 7)
	tr := grown(t, dataKey(2, 3, 1), goneKey(2, 7), dataKey(2, 8, 2))
	expectSeen(t, "KData", tr, l, 3, dataKey(2, 3, 1))
	expectSeen(t, "KGone over KData", tr, l, 7, goneKey(2, 7))
	expectSeen(t, "KData over KGone", tr, l, 8, dataKey(2, 8, 2))
	expectAbove(t, "KGone over KData", tr, l, 8, goneKey(2, 7))
	// A deleted mapping hides nothing.
	tr, _ = impl.TreePut(tr, noneKey(2, 7))
	expectSeen(t, "KNone over KData", tr, l, 7, dataKey(2, 3, 1))
	expectSees(t, "KNone over KData", tr, l, noneKey(2, 7), 7, false)
	expectAbove(t, "KNone over KData", tr, l, 8, dataKey(2, 3, 1))
	tr, _ = impl.TreePut(tr, noneKey(2, 8))
	expectSeen(t, "two of KNone over KData", tr, l, 8, dataKey(2, 3, 1))
	tr, _ = impl.TreePut(tr, noneKey(2, 3))
	for _, id := range []int{3, 7, 8} {
		expectUnseen(t, "all deleted", tr, l, 2, id)
		expectNoneAbove(t, "all deleted", tr, l, 2, id)
		expectSees(t, "all deleted", tr, l, noneKey(2, 3), id, false)
	}
	tr, _ = impl.TreePut(tr, goneKey(2, 3))
	expectSeen(t, "KGone alone", tr, l, 8, goneKey(2, 3))
	// Deletions alone, in a tree that never had the keys.
	tr = grown(t, noneKey(2, 3), noneKey(2, 7))
	expectUnseen(t, "KNone alone", tr, l, 2, 8)
	expectNoneAbove(t, "KNone alone", tr, l, 2, 8)
}

// stateKeys returns the keys of block blk whose kinds are the digits of state: 0
// for no key, then KData, KGone and a KData that is deleted again.
func stateKeys(ids []int, blk, state, kinds int) []impl.Key {
	var out []impl.Key
	for i, id := range ids {
		switch state % kinds {
		case 1:
			out = append(out, dataKey(blk, id, i))
		case 2:
			out = append(out, goneKey(blk, id))
		case 3:
			out = append(out, dataKey(blk, id, i), noneKey(blk, id))
		}
		state /= kinds
	}
	return out
}

func power(base, n int) int {
	out := 1
	for range n {
		out *= base
	}
	return out
}

// expectForestsInherit compares the lookups of each version with promise 8, for
// every forest of these Ids and for each kind of mapping in each of them. Two
// other blocks and a version that does not exist have mappings too.
func expectForestsInherit(t *testing.T, ids []int, kinds int) {
	t.Helper()
	for state := range power(kinds, len(ids)) {
		keys := append(stateKeys(ids, 5, state, kinds), dataKey(5, 30, 20), goneKey(4, ids[0]), dataKey(6, ids[len(ids)-1], 21))
		tr := grown(t, keys...)
		live := liveKeys(nodeOf(keys))
		expectKeys(t, "TreeKeys", impl.TreeKeys(tr), live)
		eachForest(ids, func(l []impl.Age) {
			for _, id := range append([]int{30}, ids...) {
				expectInherited(t, tr, live, l, 5, id)
			}
		})
	}
}

func TestEachForestInherits(t *testing.T) {
	expectForestsInherit(t, []int{60}, 4)
	expectForestsInherit(t, []int{1, 60}, 4)
	expectForestsInherit(t, []int{1, 29, 31}, 4)
	expectForestsInherit(t, []int{2, 9, 33, 34}, 4)
	expectForestsInherit(t, []int{1, 4, 17, 59, 60}, 3)
}

// TestSeenInFullLists takes many sets of mappings in 16 versions, which form a
// chain or a star.
func TestSeenInFullLists(t *testing.T) {
	chain, star := chainOf(2, 16), agesOf(2, 0)
	for _, a := range chain[1:] {
		star = append(star, impl.Age{Id: a.Id, From: 2})
	}
	for bits := 0; bits < 1<<16; bits += 131 {
		var keys []impl.Key
		for i, a := range chain {
			if bits>>i&1 == 1 {
				keys = append(keys, dataKey(7, a.Id, i))
			}
		}
		tr := grown(t, keys...)
		for _, a := range chain {
			expectInherited(t, tr, keys, chain, 7, a.Id)
			expectInherited(t, tr, keys, star, 7, a.Id)
		}
	}
	for i, a := range rootsOf(16) {
		k := dataKey(3, a.Id, i)
		expectSeen(t, "roots", grown(t, k), rootsOf(16), a.Id, k)
		expectUnseen(t, "roots", grown(t, k), rootsOf(16), 3, (i+1)%16+1)
	}
}

// TestSeenInFullTrees takes 60 keys in several nodes: 15 blocks with 4 of 16
// versions each.
func TestSeenInFullTrees(t *testing.T) {
	wide := agesOf(1, 0, 2, 1, 3, 1, 4, 2, 5, 2, 6, 3, 7, 3, 8, 4, 9, 4, 10, 5, 11, 5, 12, 6, 13, 6, 14, 7, 15, 7, 16, 8)
	for stride := 1; stride < 16; stride += 3 {
		var keys []impl.Key
		for i := range 60 {
			keys = append(keys, dataKey(i%15, (i/15*stride+i%15)%16+1, i%24))
		}
		tr := grown(t, keys...)
		live := liveKeys(nodeOf(keys))
		for _, l := range [][]impl.Age{wide, rootsOf(16), wide[:9], wide[3:]} {
			for blk := range 16 {
				for id := range 18 {
					expectSight(t, tr, live, l, blk, id)
				}
			}
		}
	}
}

// TestWriteIsSeenByItsHeirsAlone puts a mapping into a version of a forest: the
// version sees it, and so do those that inherit from it; nothing else changes.
func TestWriteIsSeenByItsHeirsAlone(t *testing.T) {
	ids := []int{2, 3, 11, 40}
	for state := range power(3, len(ids)) {
		before := grown(t, append(stateKeys(ids, 5, state, 3), goneKey(4, 3), dataKey(6, 2, 9))...)
		eachForest(ids, func(l []impl.Age) {
			up := ancestors(l)
			for _, at := range ids {
				k := dataKey(5, at, 17)
				after, _ := impl.TreePut(before, k)
				for _, id := range ids {
					old, is := impl.Seen(before, l, 5, id)
					if up[[2]int{at, id}] && (!is || old.Age <= at) {
						old, is = k, true
					}
					if now, ok := impl.Seen(after, l, 5, id); now != old || ok != is {
						t.Fatalf("Seen(%v, %v, 5, %d) = %v, %v after a write to %v, want %v, %v", after, l, id, now, ok, k, old, is)
					}
					for _, blk := range []int{4, 6} {
						old, is := impl.Seen(before, l, blk, id)
						if now, ok := impl.Seen(after, l, blk, id); now != old || ok != is {
							t.Fatalf("Seen(%v, %v, %d, %d) = %v, %v after a write to %v, want %v, %v", after, l, blk, id, now, ok, k, old, is)
						}
					}
				}
			}
		})
	}
}

// TestWalkThroughVersions writes and deletes mappings, adds versions and cuts
// them, their mappings first, and compares all lookups after each step.
func TestWalkThroughVersions(t *testing.T) {
	tr, l := impl.TreeNew(), agesOf(1, 0)
	seed := uint32(29)
	next := func(limit int) int {
		seed = seed*1664525 + 1013904223
		return int(seed>>8) % limit
	}
	grew, cuts, nodes := 0, 0, 0
	for step := range 1000 {
		id, blk := l[next(len(l))].Id, next(4)
		switch next(10) {
		case 0, 1, 2:
			tr, _ = impl.TreePut(tr, dataKey(blk, id, step%24))
		case 3:
			tr, _ = impl.TreePut(tr, goneKey(blk, id))
		case 4:
			tr, _ = impl.TreePut(tr, noneKey(blk, id))
		case 5, 6, 7, 8:
			child := next(60) + 1
			if longer, ok := impl.NewAge(l, child, id); ok {
				expectSameSight(t, tr, longer, child, id)
				l, grew = longer, grew+1
			}
		case 9:
			if shorter, _ := impl.CutAge(l, id); len(shorter) > 0 {
				tr = withoutVersion(t, tr, id)
				expectCutKeepsSight(t, tr, l, shorter)
				l, cuts = shorter, cuts+1
			}
		}
		nodes = max(nodes, len(tr.Nodes))
		keys := liveTreeKeys(tr)
		for blk := range 5 {
			for _, a := range l {
				expectInherited(t, tr, keys, l, blk, a.Id)
			}
		}
	}
	if grew < 50 || cuts < 50 || nodes < 3 {
		t.Errorf("%d new versions, %d cuts, %d nodes: the walk is too short", grew, cuts, nodes)
	}
}

// withoutVersion deletes the mappings of a version.
func withoutVersion(t *testing.T, tr impl.Tree, id int) impl.Tree {
	t.Helper()
	for _, k := range liveTreeKeys(tr) {
		if k.Age != id {
			continue
		}
		next, ok := impl.TreePut(tr, noneKey(k.Blk, k.Age))
		if !ok {
			t.Fatalf("TreePut(%v) failed to delete %v", tr, k)
		}
		tr = next
	}
	return tr
}

// expectSameSight expects that a new version sees what its parent sees.
func expectSameSight(t *testing.T, tr impl.Tree, l []impl.Age, child, from int) {
	t.Helper()
	for blk := range 5 {
		want, is := impl.Seen(tr, l, blk, from)
		if k, ok := impl.Seen(tr, l, blk, child); k != want || ok != is {
			t.Fatalf("block %d: the new version %d sees %v, %v, its parent %d sees %v, %v", blk, child, k, ok, from, want, is)
		}
		if k, ok := impl.SeenAbove(tr, l, blk, child); k != want || ok != is {
			t.Fatalf("block %d: above the new version %d there is %v, %v, its parent %d sees %v, %v", blk, child, k, ok, from, want, is)
		}
	}
}

// expectCutKeepsSight expects that the versions of after see what they see in
// before, which has one more, without mappings.
func expectCutKeepsSight(t *testing.T, tr impl.Tree, before, after []impl.Age) {
	t.Helper()
	for blk := range 5 {
		for _, a := range after {
			want, is := impl.Seen(tr, before, blk, a.Id)
			if k, ok := impl.Seen(tr, after, blk, a.Id); k != want || ok != is {
				t.Fatalf("block %d: version %d sees %v, %v after the cut, %v, %v before", blk, a.Id, k, ok, want, is)
			}
		}
	}
}

func TestSeenInACircle(t *testing.T) {
	two := agesOf(1, 2, 2, 1)
	one, other := dataKey(4, 1, 3), dataKey(4, 2, 5)
	expectSeen(t, "each other's parents", grown(t, one), two, 1, one)
	expectSeen(t, "each other's parents", grown(t, one), two, 2, one)
	expectSeen(t, "each other's parents", grown(t, one, other), two, 1, other)
	expectSeen(t, "each other's parents", grown(t, one, other), two, 2, other)
	// The path of 1 is 1, 2, 1: without the first element, both are left.
	expectAbove(t, "each other's parents", grown(t, one), two, 1, one)
	expectAbove(t, "each other's parents", grown(t, other), two, 1, other)
	expectAbove(t, "each other's parents", grown(t, one, other), two, 1, other)
	expectAbove(t, "each other's parents", grown(t, one, other), two, 2, other)
	expectSees(t, "each other's parents", grown(t, one, other), two, one, 1, false)
	expectSees(t, "each other's parents", grown(t, one, other), two, other, 1, true)
	expectAbove(t, "its own parent", grown(t, one), agesOf(1, 1), 1, one)
	expectSeen(t, "its own parent", grown(t, one), agesOf(1, 1), 1, one)
	expectUnseen(t, "its own parent", grown(t, other), agesOf(1, 1), 4, 1)
	// The path of 8 is 8, 6, 4, 2, 4.
	into := agesOf(2, 4, 4, 2, 6, 4, 8, 6)
	expectSeen(t, "a way into a circle", grown(t, other), into, 8, other)
	expectAbove(t, "a way into a circle", grown(t, other, dataKey(4, 8, 1)), into, 8, other)
	expectUnseen(t, "a way into a circle", grown(t, dataKey(4, 8, 1)), into, 4, 2)
}

func TestSeenWhereIdsDoNotAscend(t *testing.T) {
	// The greatest version of the path counts, not the nearest one.
	l := agesOf(9, 0, 5, 9, 3, 5)
	tr := grown(t, dataKey(4, 3, 1), dataKey(4, 5, 2), dataKey(4, 9, 3))
	for _, id := range []int{3, 5, 9} {
		expectSeen(t, "descending Ids", tr, l, id, dataKey(4, 9, 3))
	}
	expectAbove(t, "descending Ids", tr, l, 3, dataKey(4, 9, 3))
	expectAbove(t, "descending Ids", tr, l, 5, dataKey(4, 9, 3))
	expectNoneAbove(t, "descending Ids", tr, l, 4, 9)
	expectSees(t, "descending Ids", tr, l, dataKey(4, 3, 1), 3, false)
	expectSees(t, "descending Ids", tr, l, dataKey(4, 9, 3), 3, true)
	expectSeen(t, "a parent that comes later", tr, agesOf(3, 5, 5, 0), 3, dataKey(4, 5, 2))
	// The first of two versions with one Id counts.
	expectSeen(t, "equal Ids", tr, agesOf(3, 0, 9, 0, 20, 3, 20, 9), 20, dataKey(4, 3, 1))
	// A parent that is no version is no ancestor, although it has a mapping.
	expectUnseen(t, "a parent that does not exist", tr, agesOf(7, 5), 4, 7)
	expectNoneAbove(t, "a parent that does not exist", tr, agesOf(7, 5), 4, 7)
	// A From of 0 is no parent, even if there is a version 0.
	zero := loose(goneKey(4, 0))
	expectUnseen(t, "a version 0", zero, agesOf(0, 0, 7, 0), 4, 7)
	expectSeen(t, "a version 0", zero, agesOf(0, 0, 7, 0), 0, goneKey(4, 0))
	expectSees(t, "a version 0", zero, agesOf(0, 0, 7, 0), goneKey(4, 0), 0, true)
	expectNoneAbove(t, "a version 0", zero, agesOf(0, 0, 7, 0), 4, 0)
}

func TestSeenInInvalidLists(t *testing.T) {
	trees := []impl.Tree{impl.TreeNew(), familyTree(t), grown(t, dataKey(0, 1, 1), dataKey(0, 2, 2), goneKey(0, 3), dataKey(0, 4, 3), dataKey(0, 5, 4), goneKey(0, 6), dataKey(0, 60, 5))}
	for _, id := range append(farNumbers, 0, 3) {
		trees = append(trees, loose(goneKey(0, 2), goneKey(0, id), goneKey(0, 5)))
	}
	for _, tr := range trees {
		keys := liveTreeKeys(tr)
		for _, l := range invalidAges() {
			for id := -2; id <= 62; id++ {
				expectSight(t, tr, keys, l, 0, id)
			}
			for _, id := range farNumbers {
				expectSight(t, tr, keys, l, 0, id)
			}
		}
	}
	long := chainOf(1, 40)
	expectSeen(t, "40 versions", grown(t, goneKey(3, 1)), long, 118, goneKey(3, 1))
	expectSeen(t, "40 versions", loose(goneKey(3, 115), goneKey(3, 112)), long, 118, goneKey(3, 115))
}

// TestSeenInShortLists compares the lookups with the chapter's wording for every
// short list of few numbers, valid or not, and mappings in each of them.
func TestSeenInShortLists(t *testing.T) {
	numbers := []int{-1, 0, 1, 60}
	for bits := range 16 {
		var keys []impl.Key
		for i, n := range numbers {
			if bits>>i&1 == 1 {
				keys = append(keys, dataKey(3, n, i))
			}
		}
		for _, keys := range [][]impl.Key{keys, slices.Concat(keys[len(keys)/2:], keys[:len(keys)/2])} {
			tr := loose(keys...)
			eachShortList(numbers, func(l []impl.Age) {
				for _, id := range numbers {
					expectSight(t, tr, keys, l, 3, id)
				}
			})
		}
	}
}

func TestSeenInInvalidTrees(t *testing.T) {
	l := family()
	for _, tr := range append(messyTrees(), sharingTrees()...) {
		keys := liveTreeKeys(tr)
		for blk := -1; blk <= 16; blk++ {
			for _, a := range append(l, impl.Age{Id: 40}) {
				expectSight(t, tr, keys, l, blk, a.Id)
			}
		}
	}
	// The first of several keys of the greatest version counts.
	a, b, c := dataKey(4, 5, 1), goneKey(4, 5), dataKey(4, 2, 3)
	expectSeen(t, "one position twice", loose(a, b), l, 20, a)
	expectSeen(t, "one position twice", loose(b, a), l, 20, b)
	expectSeen(t, "one position twice", loose(c, a, c, b), l, 20, a)
	expectSeen(t, "nodes in disorder", loose(a, c), l, 20, a)
	expectSeen(t, "nodes in disorder", loose(a, c), l, 2, c)
	expectAbove(t, "one position twice", loose(a, b), l, 6, a)
	expectAbove(t, "one position twice, its own", loose(a, c, b), l, 5, c)
	expectSees(t, "one position twice", loose(a, b), l, b, 20, true)
	odd := impl.Key{Blk: 4, Age: 5, Kind: 3, Cell: -1, Gen: 1000}
	expectSeen(t, "a kind that does not exist", loose(c, odd), l, 20, odd)
	for _, blk := range append(farNumbers, 16) {
		k := goneKey(blk, 5)
		expectSeen(t, "a block out of range", loose(goneKey(0, 6), k), l, 20, k)
		expectAbove(t, "a block out of range", loose(goneKey(0, 6), k), l, 20, k)
		expectSees(t, "a block out of range", loose(goneKey(0, 6), k), l, k, 20, true)
	}
	for _, age := range append(farNumbers, 0) {
		expectUnseen(t, "a key of no version", loose(goneKey(4, age)), l, 4, 20)
		expectSeen(t, "a version out of range", loose(goneKey(4, age)), agesOf(age, 0), age, goneKey(4, age))
		expectNoneAbove(t, "a version out of range", loose(goneKey(4, age)), agesOf(age, 0), 4, age)
	}
}

func TestSightStopsAtTheLength(t *testing.T) {
	tr := grown(t, goneKey(3, 2), dataKey(3, 5, 1))
	l := agesOf(2, 0, 5, 2, 6, 5)
	expectSeen(t, "the whole list", tr, l, 6, dataKey(3, 5, 1))
	expectUnseen(t, "a spare version", tr, l[:2], 3, 6)
	expectNoneAbove(t, "a spare version", tr, l[:2], 3, 6)
	expectSees(t, "a spare version", tr, l[:2], dataKey(3, 5, 1), 6, false)
	two := loose(goneKey(3, 2), dataKey(3, 5, 1))
	two.Nodes = two.Nodes[:1]
	expectSeen(t, "a spare node", two, l, 6, goneKey(3, 2))
	expectAbove(t, "a spare node", two, l, 6, goneKey(3, 2))
}

// TestSightChangesNoArgument also writes over the results.
func TestSightChangesNoArgument(t *testing.T) {
	trees := append(sharingTrees(), familyTree(t), loose(goneKey(4, 5), dataKey(4, 5, 1)))
	for _, oldTree := range trees {
		tr := roomyTree(oldTree)
		keys := liveTreeKeys(oldTree)
		for _, oldAges := range sharingAges() {
			l := roomyAges(oldAges)
			for _, id := range []int{-1, 0, 1, 2, 5, 6, 8, 20, 47, 60} {
				for _, blk := range []int{0, 1, 4} {
					scratchKeys(impl.KeysOf(tr, blk))
					impl.Seen(tr, l, blk, id)
					impl.SeenAbove(tr, l, blk, id)
					impl.Sees(tr, l, goneKey(blk, 2), id)
					expectSight(t, tr, keys, l, blk, id)
				}
			}
			expectWholeAges(t, "the versions", l, oldAges)
		}
		expectWholeTree(t, "the tree", tr, oldTree)
	}
}

func TestKeysOfShareNoMemory(t *testing.T) {
	for _, old := range append(sharingTrees(), familyTree(t)) {
		for blk := range 5 {
			tr := roomyTree(old)
			keys, others := impl.KeysOf(tr, blk), impl.KeysOf(tr, blk)
			scratchKeys(others)
			expectKeys(t, "the keys after a change of another result", keys, keysIn(liveTreeKeys(old), blk))
			expectWholeTree(t, "the argument after a change of the keys", tr, old)
			scratchTree(tr)
			expectKeys(t, "the keys after a change of the argument", keys, keysIn(liveTreeKeys(old), blk))
		}
	}
}
