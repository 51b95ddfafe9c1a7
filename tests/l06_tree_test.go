package tests

import (
	"math"
	"slices"
	"testing"

	"loop.example/g00467/impl"
)

// treeOf returns a tree with these nodes. The lower bound of each node is the
// position of its first key, and that of the first node is 0.
func treeOf(nodes ...impl.Node) impl.Tree {
	var out impl.Tree
	for i, n := range nodes {
		low := 0
		if i > 0 {
			first := slices.Concat(n.Sets...)[0]
			low = 64*first.Blk + first.Age
		}
		out.Lows, out.Nodes = append(out.Lows, low), append(out.Nodes, n)
	}
	return out
}

// sized returns a tree whose nodes have these numbers of keys, taken from
// looseRun in order, each node with one set.
func sized(sizes ...int) impl.Tree {
	l := looseRun(60)
	var nodes []impl.Node
	for _, size := range sizes {
		n := impl.Node{}
		if size > 0 {
			n = nodeOf(slices.Clone(l[:size]))
		}
		nodes, l = append(nodes, n), l[size:]
	}
	return treeOf(nodes...)
}

// keysOf returns the keys that sized takes for the node with index i.
func keysOf(i int, sizes ...int) []impl.Key {
	at := 0
	for _, size := range sizes[:i] {
		at += size
	}
	return looseRun(at + sizes[i])[at:]
}

func sizesOf(t impl.Tree) []int {
	var out []int
	for _, n := range t.Nodes {
		out = append(out, len(liveKeys(n)))
	}
	return out
}

func sameTree(a, b impl.Tree) bool {
	return slices.Equal(a.Lows, b.Lows) && slices.EqualFunc(a.Nodes, b.Nodes, sameNode)
}

func deepTree(t impl.Tree) impl.Tree {
	out := impl.Tree{Lows: slices.Clone(t.Lows)}
	for _, n := range t.Nodes {
		out.Nodes = append(out.Nodes, deepNode(n))
	}
	return out
}

// liveTreeKeys says what TreeKeys returns.
func liveTreeKeys(t impl.Tree) []impl.Key {
	var out []impl.Key
	for _, n := range t.Nodes {
		out = append(out, liveKeys(n)...)
	}
	return out
}

// validTree says what TreeOk returns.
func validTree(t impl.Tree) bool {
	if len(t.Nodes) < 1 || len(t.Nodes) > 20 || len(t.Lows) != len(t.Nodes) || t.Lows[0] != 0 {
		return false
	}
	ok := len(liveTreeKeys(t)) <= 60
	for i, n := range t.Nodes {
		high := math.MaxInt
		if i+1 < len(t.Lows) {
			high = t.Lows[i+1]
		}
		ok = ok && t.Lows[i] < high && validNode(n) && (i == 0 || len(liveKeys(n)) > 0)
		for _, k := range slices.Concat(n.Sets...) {
			ok = ok && within(64*k.Blk+k.Age, t.Lows[i], high-1)
		}
	}
	return ok
}

// nodeFor says what WhereIn returns.
func nodeFor(t impl.Tree, blk, age int) int {
	out := -1
	for i, low := range t.Lows {
		if low <= 64*blk+age {
			out = i
		}
	}
	return out
}

func nodeWith(l []impl.Key) impl.Node {
	if len(l) == 0 {
		return impl.Node{}
	}
	return nodeOf(slices.Clone(l))
}

// treeAfterPut says what TreePut returns, in the words of chapter 6.
func treeAfterPut(t impl.Tree, k impl.Key) (impl.Tree, bool) {
	if !validTree(t) || !validKey(k) {
		return t, false
	}
	out := deepTree(t)
	i := nodeFor(t, k.Blk, k.Age)
	n, ok := afterPut(t.Nodes[i], k)
	if !ok {
		keys := liveKeys(nodeOf(liveKeys(t.Nodes[i]), []impl.Key{k}))
		half := len(keys)/2 + len(keys)%2
		out.Nodes[i] = nodeWith(keys[:half])
		out.Nodes = slices.Insert(out.Nodes, i+1, nodeWith(keys[half:]))
		out.Lows = slices.Insert(out.Lows, i+1, 64*keys[half].Blk+keys[half].Age)
	} else if i > 0 && len(liveKeys(n)) == 0 {
		out.Nodes, out.Lows = slices.Delete(out.Nodes, i, i+1), slices.Delete(out.Lows, i, i+1)
	} else {
		out.Nodes[i] = n
	}
	for j := 0; j+1 < len(out.Nodes); {
		keys := append(liveKeys(out.Nodes[j]), liveKeys(out.Nodes[j+1])...)
		if len(keys) > 6 {
			j++
			continue
		}
		out.Nodes[j] = nodeWith(keys)
		out.Nodes, out.Lows = slices.Delete(out.Nodes, j+1, j+2), slices.Delete(out.Lows, j+1, j+2)
		j = 0
	}
	if !validTree(out) {
		return t, false
	}
	return out, true
}

func expectTree(t *testing.T, what string, got, want impl.Tree) {
	t.Helper()
	if !sameTree(got, want) {
		t.Errorf("%s = %v, want %v", what, got, want)
	}
}

func expectTreeOk(t *testing.T, what string, tr impl.Tree, want bool) {
	t.Helper()
	if got := impl.TreeOk(tr); got != want {
		t.Errorf("%s: TreeOk(%v) = %v, want %v", what, tr, got, want)
	}
}

func expectWhere(t *testing.T, tr impl.Tree, blk, age, want int) {
	t.Helper()
	if got := impl.WhereIn(tr, blk, age); got != want {
		t.Errorf("WhereIn(%v, %d, %d) = %d, want %d", tr.Lows, blk, age, got, want)
	}
}

func expectInTree(t *testing.T, what string, tr impl.Tree, want impl.Key) {
	t.Helper()
	if k, ok := impl.TreeAt(tr, want.Blk, want.Age); k != want || !ok {
		t.Errorf("%s: TreeAt(%v, %d, %d) = %v, %v, want %v", what, tr, want.Blk, want.Age, k, ok, want)
	}
}

func expectNotInTree(t *testing.T, what string, tr impl.Tree, blk, age int) {
	t.Helper()
	if k, ok := impl.TreeAt(tr, blk, age); k != (impl.Key{}) || ok {
		t.Errorf("%s: TreeAt(%v, %d, %d) = %v, %v, want the zero Key, false", what, tr, blk, age, k, ok)
	}
}

// expectTreePut expects that k is put into tr with the result want.
func expectTreePut(t *testing.T, what string, tr impl.Tree, k impl.Key, want impl.Tree) {
	t.Helper()
	if got, ok := impl.TreePut(tr, k); !ok || !sameTree(got, want) {
		t.Errorf("%s: TreePut(%v, %v) = %v, %v, want %v, true", what, tr, k, got, ok, want)
	}
}

// expectNoTreePut expects that k cannot be put into tr.
func expectNoTreePut(t *testing.T, what string, tr impl.Tree, k impl.Key) {
	t.Helper()
	if got, ok := impl.TreePut(tr, k); ok || !sameTree(got, tr) {
		t.Errorf("%s: TreePut(%v, %v) = %v, %v, want the tree and false", what, tr, k, got, ok)
	}
}

func expectTreeAfterPut(t *testing.T, tr impl.Tree, k impl.Key) {
	t.Helper()
	want, is := treeAfterPut(tr, k)
	if got, ok := impl.TreePut(tr, k); ok != is || !sameTree(got, want) {
		t.Fatalf("TreePut(%v, %v) = %v, %v, want %v, %v", tr, k, got, ok, want, is)
	}
}

// messyTrees returns trees that are not valid.
func messyTrees() []impl.Tree {
	short, long := sized(4, 4), sized(4, 4)
	short.Lows, long.Lows = short.Lows[:1], append(long.Lows, 900)
	late, early, equal, turned, outside := sized(4, 4), sized(4, 4), sized(4, 4), sized(4, 4, 4), sized(4, 4)
	late.Lows[0], early.Lows[0], equal.Lows[1] = 1, -1, 0
	turned.Lows[1], turned.Lows[2] = turned.Lows[2], turned.Lows[1]
	outside.Lows[1]++
	out := []impl.Tree{
		{}, {Lows: []int{0}}, {Nodes: []impl.Node{{}}}, short, long, late, early, equal, turned, outside, sized(4, 9), sized(9),
		{Lows: []int{0, 70}, Nodes: []impl.Node{nodeOf(looseRun(1)), {}}}, treeOf(nodeOf(looseRun(1)), nodeOf([]impl.Key{noneKey(9, 9)})),
	}
	for _, n := range messyNodes() {
		out = append(out, impl.Tree{Lows: []int{0}, Nodes: []impl.Node{n}}, impl.Tree{Lows: []int{0, 500}, Nodes: []impl.Node{n, nodeOf([]impl.Key{goneKey(9, 9)})}})
	}
	return out
}

func TestTreeConstants(t *testing.T) {
	if impl.MaxNodes != 20 || impl.MaxKeys != 60 {
		t.Errorf("MaxNodes, MaxKeys = %d, %d, want 20, 60", impl.MaxNodes, impl.MaxKeys)
	}
}

func TestSpotOf(t *testing.T) {
	last := 0
	for blk := range 16 {
		for age := 1; age <= 60; age++ {
			n := impl.SpotOf(blk, age)
			if n != 64*blk+age || n <= last {
				t.Errorf("SpotOf(%d, %d) = %d after %d", blk, age, n, last)
			}
			last = n
		}
	}
	for _, c := range [][3]int{
		{0, 0, 0}, {0, 1, 1}, {1, 0, 64}, {2, 5, 133}, {15, 60, 1020}, {1, 64, 128}, {-1, 0, -64}, {-1, 70, 6}, {3, -200, -8},
		{0, math.MaxInt, math.MaxInt}, {0, math.MinInt, math.MinInt}, {math.MaxInt, 5, -59}, {math.MinInt, 5, 5},
	} {
		if n := impl.SpotOf(c[0], c[1]); n != c[2] {
			t.Errorf("SpotOf(%d, %d) = %d, want %d", c[0], c[1], n, c[2])
		}
	}
}

func TestTreeNew(t *testing.T) {
	tr := impl.TreeNew()
	expectTree(t, "TreeNew", tr, impl.Tree{Lows: []int{0}, Nodes: []impl.Node{{}}})
	expectTreeOk(t, "TreeNew", tr, true)
	expectKeys(t, "TreeKeys", impl.TreeKeys(tr), nil)
	for blk := range 16 {
		for age := 1; age <= 60; age++ {
			expectWhere(t, tr, blk, age, 0)
			expectNotInTree(t, "a new tree", tr, blk, age)
		}
	}
	expectWhere(t, tr, 0, 0, 0)
	expectWhere(t, tr, 0, -1, -1)
	tr.Lows[0], tr.Nodes[0] = 5, nodeOf(looseRun(1))
	expectTree(t, "another new tree", impl.TreeNew(), impl.Tree{Lows: []int{0}, Nodes: []impl.Node{{}}})
}

func TestTreeOkRequiresBoundsForEachNode(t *testing.T) {
	expectTreeOk(t, "no nodes", impl.Tree{}, false)
	expectTreeOk(t, "a bound without a node", impl.Tree{Lows: []int{0}}, false)
	expectTreeOk(t, "a node without a bound", impl.Tree{Nodes: []impl.Node{{}}}, false)
	for _, sizes := range [][]int{{0}, {4}, {4, 4}, {0, 4}, {1, 1, 1}, {8, 8, 8, 8}} {
		tr := sized(sizes...)
		expectTreeOk(t, "as many bounds as nodes", tr, true)
		more, fewer := deepTree(tr), deepTree(tr)
		more.Lows = append(more.Lows, 1000)
		expectTreeOk(t, "a bound too many", more, false)
		fewer.Lows = fewer.Lows[:len(sizes)-1]
		expectTreeOk(t, "a bound too few", fewer, false)
	}
}

func TestTreeOkRequiresAscendingBounds(t *testing.T) {
	for _, low := range []int{math.MinInt, -1, 1, 64, math.MaxInt} {
		tr := impl.TreeNew()
		tr.Lows[0] = low
		expectTreeOk(t, "an empty tree that does not start with 0", tr, false)
		tr = sized(4, 4)
		tr.Lows[0] = low
		expectTreeOk(t, "a tree that does not start with 0", tr, false)
	}
	tr := treeOf(impl.Node{}, nodeOf([]impl.Key{goneKey(0, 1)}))
	expectTreeOk(t, "the least second bound", tr, true)
	tr.Lows[1] = 0
	expectTreeOk(t, "two bounds of 0", tr, false)
	tr.Lows[1] = -1
	expectTreeOk(t, "a second bound of -1", tr, false)
	tr = sized(4, 4, 4)
	tr.Lows[2] = tr.Lows[1]
	expectTreeOk(t, "two equal bounds", tr, false)
	tr.Lows[2] = tr.Lows[1] - 1
	expectTreeOk(t, "descending bounds", tr, false)
	// Nodes in reverse order fit their bounds; only the bounds are wrong.
	a, b := nodeOf([]impl.Key{goneKey(2, 1)}), nodeOf([]impl.Key{goneKey(1, 1)})
	expectTreeOk(t, "nodes in reverse order", impl.Tree{Lows: []int{0, 129, 65}, Nodes: []impl.Node{{}, a, b}}, false)
}

func TestTreeOkRequiresKeysWithinTheBounds(t *testing.T) {
	for low := 1; low <= 1030; low++ {
		tr := impl.Tree{Lows: []int{0, low, low + 10}, Nodes: []impl.Node{
			nodeOf([]impl.Key{goneKey(0, 1)}), nodeOf([]impl.Key{goneKey(5, 5)}), nodeOf([]impl.Key{goneKey(15, 60)})}}
		// The position 5, 5 has the number 325 and the last one 1020.
		expectTreeOk(t, "a middle node", tr, low <= 325 && low+10 > 325)
		tr.Lows = []int{0, 325, low}
		expectTreeOk(t, "a last node", tr, low > 325 && low <= 1020)
		tr.Lows = []int{0, low, 326}
		expectTreeOk(t, "a middle node with the next bound just behind", tr, low >= 2 && low <= 325)
	}
	expectTreeOk(t, "a single node has no upper bound", treeOf(nodeOf([]impl.Key{goneKey(0, 1), goneKey(15, 60)})), true)
	for i := range 4 {
		l := []impl.Key{goneKey(5, 1), goneKey(5, 5), goneKey(5, 9), goneKey(5, 13)}
		tr := impl.Tree{Lows: []int{0, 321, 334}, Nodes: []impl.Node{{}, nodeOf(l), nodeOf([]impl.Key{goneKey(9, 9)})}}
		expectTreeOk(t, "four keys within the bounds", tr, true)
		tr.Nodes[1].Sets[0] = putInto(slices.Delete(slices.Clone(l), i, i+1), goneKey(5, 14))
		expectTreeOk(t, "one of four keys above the bounds", tr, false)
		tr.Nodes[1].Sets[0] = putInto(slices.Delete(slices.Clone(l), i, i+1), goneKey(4, 60))
		expectTreeOk(t, "one of four keys below the bounds", tr, false)
	}
}

func TestTreeOkHoldsEachLayerToTheBounds(t *testing.T) {
	in, next := []impl.Key{goneKey(5, 5)}, nodeOf([]impl.Key{goneKey(9, 9)})
	for _, out := range []impl.Key{goneKey(4, 9), noneKey(4, 9), dataKey(8, 9, 1), noneKey(8, 9)} {
		for _, sets := range [][][]impl.Key{{{out}, in}, {in, {out}}, {in, {out}, in}, {{out}, in, {noneKey(out.Blk, out.Age)}}} {
			tr := impl.Tree{Lows: []int{0, 300, 500}, Nodes: []impl.Node{{}, nodeOf(sets...), next}}
			expectTreeOk(t, "a key of one layer outside the bounds", tr, false)
			tr.Lows = []int{0, 200, 550}
			expectTreeOk(t, "wider bounds", tr, true)
		}
	}
	first := impl.Tree{Lows: []int{0, 300}, Nodes: []impl.Node{nodeOf([]impl.Key{noneKey(5, 5)}), next}}
	expectTreeOk(t, "a deletion above the bounds of the first node", first, false)
}

func TestTreeOkRequiresKeysInOtherNodesThanTheFirst(t *testing.T) {
	deleted := []impl.Key{noneKey(5, 5), noneKey(5, 6)}
	hidden := []impl.Key{goneKey(5, 5), dataKey(5, 6, 1)}
	last := nodeOf([]impl.Key{goneKey(9, 9)})
	for _, n := range []impl.Node{{}, nodeOf(deleted), nodeOf(hidden, deleted), nodeOf(deleted[:1], hidden, deleted)} {
		expectTreeOk(t, "an only node without keys", impl.Tree{Lows: []int{0}, Nodes: []impl.Node{n}}, true)
		expectTreeOk(t, "a first node without keys", impl.Tree{Lows: []int{0, 500}, Nodes: []impl.Node{n, last}}, true)
		expectTreeOk(t, "a second node without keys", impl.Tree{Lows: []int{0, 300}, Nodes: []impl.Node{{}, n}}, false)
		expectTreeOk(t, "a middle node without keys", impl.Tree{Lows: []int{0, 300, 500}, Nodes: []impl.Node{nodeOf(looseRun(3)), n, last}}, false)
	}
	back := nodeOf(hidden, deleted, hidden[:1])
	expectTreeOk(t, "a node with one key left", impl.Tree{Lows: []int{0, 300}, Nodes: []impl.Node{{}, back}}, true)
}

func TestTreeOkRejectsInvalidNodes(t *testing.T) {
	for _, n := range messyNodes() {
		expectTreeOk(t, "an only node", impl.Tree{Lows: []int{0}, Nodes: []impl.Node{n}}, false)
		expectTreeOk(t, "a first node", impl.Tree{Lows: []int{0, 900}, Nodes: []impl.Node{n, nodeOf([]impl.Key{goneKey(15, 1)})}}, false)
		expectTreeOk(t, "a second node", impl.Tree{Lows: []int{0, 1}, Nodes: []impl.Node{{}, n}}, false)
	}
	for _, tr := range messyTrees() {
		expectTreeOk(t, "a messy tree", tr, false)
	}
}

func TestTreeOkAtTheLimits(t *testing.T) {
	for n := 1; n <= 24; n++ {
		ones := slices.Repeat([]int{1}, n)
		expectTreeOk(t, "nodes with one key", sized(ones...), n <= 20)
		ones[0] = 0
		expectTreeOk(t, "a first node without keys", sized(ones...), n <= 20)
	}
	for last := 1; last <= 8; last++ {
		tr := sized(8, 8, 8, 8, 8, 8, 8)
		keys := []impl.Key{}
		for i := range last {
			keys = append(keys, goneKey(12, i+1))
		}
		tr.Lows, tr.Nodes = append(tr.Lows, 64*12), append(tr.Nodes, nodeOf(keys))
		expectTreeOk(t, "56 keys and some", tr, last <= 4)
	}
	expectTreeOk(t, "20 nodes and 60 keys", sized(slices.Repeat([]int{3}, 20)...), true)
	// Deletions do not count.
	full := sized(8, 8, 8, 8, 8, 8, 8, 4)
	full.Nodes[7].Sets = append(full.Nodes[7].Sets, []impl.Key{noneKey(4, 1), noneKey(4, 2)})
	expectTreeOk(t, "60 keys and 2 deletions", full, true)
	full.Nodes[7].Sets = append(full.Nodes[7].Sets, []impl.Key{goneKey(4, 1)})
	expectTreeOk(t, "61 keys and a deletion", full, false)
}

func TestTreeOkStopsAtTheLength(t *testing.T) {
	tr := sized(4, 4, 4)
	tr.Lows[2], tr.Nodes[2] = 0, nodeOf(nil)
	expectTreeOk(t, "a spare node and a spare bound", impl.Tree{Lows: tr.Lows[:2], Nodes: tr.Nodes[:2]}, true)
	expectTreeOk(t, "a spare node", impl.Tree{Lows: tr.Lows[:1], Nodes: tr.Nodes[:2]}, false)
	expectTreeOk(t, "spare nodes only", impl.Tree{Lows: tr.Lows[:0], Nodes: tr.Nodes[:0]}, false)
}

func TestWhereIn(t *testing.T) {
	for _, sizes := range [][]int{{0}, {3}, {4, 4}, {0, 7}, {8, 1, 8}, slices.Repeat([]int{3}, 20)} {
		tr := sized(sizes...)
		for blk := -2; blk <= 17; blk++ {
			for age := -70; age <= 70; age++ {
				expectWhere(t, tr, blk, age, nodeFor(tr, blk, age))
			}
		}
	}
	tr := sized(4, 4, 4)
	for i, low := range tr.Lows {
		expectWhere(t, tr, 0, low, i)
		expectWhere(t, tr, low/64, low%64, i)
		expectWhere(t, tr, 0, low-1, i-1)
		expectWhere(t, tr, 0, low+1, i)
	}
	expectWhere(t, tr, 15, 60, 2)
	expectWhere(t, tr, 0, math.MaxInt, 2)
	expectWhere(t, tr, 0, math.MinInt, -1)
}

func TestWhereInInvalidTrees(t *testing.T) {
	expectWhere(t, impl.Tree{}, 1, 1, -1)
	expectWhere(t, impl.Tree{Nodes: []impl.Node{{}}}, 1, 1, -1)
	lows := func(lows ...int) impl.Tree { return impl.Tree{Lows: lows} }
	expectWhere(t, lows(5, 9), 0, 4, -1)
	expectWhere(t, lows(5, 9), 0, 5, 0)
	expectWhere(t, lows(0, 9, 3), 0, 4, 2)
	expectWhere(t, lows(0, 9, 3), 0, 10, 2)
	expectWhere(t, lows(9, 2, 7), 0, 4, 1)
	expectWhere(t, lows(0, 7, 7, 7, 8), 0, 7, 3)
}

func TestWhereInStopsAtTheLength(t *testing.T) {
	lows := []int{0, 64, 128}
	expectWhere(t, impl.Tree{Lows: lows[:2]}, 5, 5, 1)
	expectWhere(t, impl.Tree{Lows: lows[:0]}, 5, 5, -1)
}

func TestTreeAtFindsEachKey(t *testing.T) {
	for _, sizes := range [][]int{{8}, {4, 4}, {0, 7}, {8, 1, 8}, {1, 1, 1, 1}, slices.Repeat([]int{3}, 20)} {
		tr := sized(sizes...)
		for _, k := range liveTreeKeys(tr) {
			expectInTree(t, "a key", tr, k)
			expectNotInTree(t, "an earlier version", tr, k.Blk, k.Age-1)
			expectNotInTree(t, "a later version", tr, k.Blk, k.Age+1)
			// These have the number of the key's position.
			expectNotInTree(t, "another block", tr, k.Blk-1, k.Age+64)
			expectNotInTree(t, "another block", tr, k.Blk+1, k.Age-64)
		}
		for _, p := range []int{math.MinInt, -1, 0, 61, math.MaxInt} {
			expectNotInTree(t, "a block out of range", tr, p, 2)
			expectNotInTree(t, "a version out of range", tr, 1, p)
		}
	}
}

func TestTreeAtOfDeletedKeys(t *testing.T) {
	tr := sized(4, 4)
	tr.Nodes[1].Sets = append(tr.Nodes[1].Sets, []impl.Key{noneKey(1, 10), goneKey(1, 12)})
	expectNotInTree(t, "deleted", tr, 1, 10)
	expectInTree(t, "replaced", tr, goneKey(1, 12))
	expectInTree(t, "neither", tr, looseRun(7)[6])
	expectKeys(t, "TreeKeys", impl.TreeKeys(tr), liveTreeKeys(tr))
}

func TestTreeAtWithoutANode(t *testing.T) {
	expectNotInTree(t, "no nodes", impl.Tree{}, 1, 1)
	tr := sized(4, 4)
	last := looseRun(8)[7]
	tr.Nodes = tr.Nodes[:1]
	expectNotInTree(t, "more bounds than nodes", tr, last.Blk, last.Age)
	expectInTree(t, "more bounds than nodes", tr, looseRun(1)[0])
	tr.Lows = tr.Lows[:0]
	expectNotInTree(t, "no bounds", tr, 1, 2)
	tr = sized(4, 4)
	tr.Lows[0] = 67
	expectNotInTree(t, "below the first bound", tr, 1, 2)
	expectInTree(t, "not below the first bound", tr, looseRun(2)[1])
}

func TestTreeAtLooksIntoOneNode(t *testing.T) {
	tr := sized(4, 4)
	tr.Lows[1]++
	k := looseRun(5)[4]
	expectNotInTree(t, "a key below the bound of its node", tr, k.Blk, k.Age)
	tr.Lows[1] = tr.Lows[1] - 2
	expectInTree(t, "a lower bound", tr, k)
	tr.Lows[1] = 0
	expectNotInTree(t, "two bounds of 0", tr, 1, 2)
	expectInTree(t, "two bounds of 0", tr, k)
}

func TestTreeKeys(t *testing.T) {
	for _, sizes := range [][]int{{0}, {8}, {4, 4}, {0, 7}, {8, 1, 8}, slices.Repeat([]int{3}, 20)} {
		total := 0
		for _, n := range sizes {
			total += n
		}
		expectKeys(t, "TreeKeys", impl.TreeKeys(sized(sizes...)), looseRun(total))
	}
	expectKeys(t, "TreeKeys of no nodes", impl.TreeKeys(impl.Tree{}), nil)
	expectKeys(t, "TreeKeys of bounds only", impl.TreeKeys(impl.Tree{Lows: []int{0, 5}}), nil)
	// The order of the nodes counts, whatever they contain.
	a, b := nodeOf(looseRun(3)), nodeOf([]impl.Key{goneKey(1, 1), goneKey(1, 2)})
	expectKeys(t, "TreeKeys of nodes in disorder", impl.TreeKeys(impl.Tree{Nodes: []impl.Node{a, b, a}}), slices.Concat(a.Sets[0], b.Sets[0], a.Sets[0]))
	for _, tr := range messyTrees() {
		expectKeys(t, "TreeKeys of a messy tree", impl.TreeKeys(tr), liveTreeKeys(tr))
	}
	tr := sized(4, 4)
	tr.Nodes = tr.Nodes[:1]
	expectKeys(t, "TreeKeys stops at the length", impl.TreeKeys(tr), looseRun(4))
}

func TestTreePutIntoANewTree(t *testing.T) {
	for _, k := range append(sampleKeys(), noneKey(1, 1)) {
		expectTreePut(t, "a new tree", impl.TreeNew(), k, impl.Tree{Lows: []int{0}, Nodes: []impl.Node{nodeOf([]impl.Key{k})}})
	}
	tr := impl.TreeNew()
	for i, k := range looseRun(8) {
		next, ok := impl.TreePut(tr, k)
		if !ok || len(next.Nodes) != 1 || next.Lows[0] != 0 {
			t.Errorf("TreePut of key %d = %v, %v", i, next, ok)
		}
		expectKeys(t, "TreeKeys", impl.TreeKeys(next), looseRun(i+1))
		tr = next
	}
}

func TestTreePutOfInvalidArguments(t *testing.T) {
	for _, k := range invalidKeys() {
		for _, tr := range []impl.Tree{impl.TreeNew(), sized(4, 4), sized(1, 1), sized(8)} {
			expectNoTreePut(t, "a key that is not valid", tr, k)
		}
	}
	for _, tr := range messyTrees() {
		for _, k := range []impl.Key{noneKey(1, 2), goneKey(1, 2), goneKey(0, 1), dataKey(15, 60, 3), {}} {
			expectNoTreePut(t, "a tree that is not valid", tr, k)
		}
	}
}

func TestTreePutChoosesTheNode(t *testing.T) {
	sizes := []int{4, 4, 4}
	for i := range sizes {
		first := keysOf(i, sizes...)[0]
		for _, k := range []impl.Key{goneKey(first.Blk, first.Age), goneKey(first.Blk, first.Age+1)} {
			tr := sized(sizes...)
			want := deepTree(tr)
			want.Nodes[i], _ = afterPut(tr.Nodes[i], k)
			expectTreePut(t, "not below the bound", tr, k, want)
		}
		if i == 0 {
			continue
		}
		// One position below the bound: the preceding node.
		tr := sized(sizes...)
		k := goneKey(first.Blk, first.Age-1)
		want := deepTree(tr)
		want.Nodes[i-1], _ = afterPut(tr.Nodes[i-1], k)
		expectTreePut(t, "below the bound", tr, k, want)
	}
	tr := sized(4, 4)
	tr.Lows[1] = 73
	k := goneKey(1, 9)
	want := deepTree(tr)
	want.Nodes[1].Sets = append(want.Nodes[1].Sets, []impl.Key{k})
	expectTreePut(t, "between the bound and the first key", tr, k, want)
}

func TestTreePutSplits(t *testing.T) {
	l := looseRun(9)
	low := 64*l[5].Blk + l[5].Age
	want := impl.Tree{Lows: []int{0, low}, Nodes: []impl.Node{nodeOf(l[:5]), nodeOf(l[5:])}}
	for i := range l {
		rest := slices.Delete(slices.Clone(l), i, i+1)
		for _, n := range []impl.Node{cut(rest, 8), cut(rest, 4, 4), cut(rest, 1, 7), cut(rest, 3, 3, 2), nodeOf(rest[4:], rest[:4])} {
			expectTreePut(t, "a ninth key", treeOf(n), l[i], want)
		}
	}
	for _, i := range []int{0, 1, 2} {
		sizes := []int{7, 7, 7}
		sizes[i] = 8
		keys := keysOf(i, sizes...)
		k := goneKey(keys[7].Blk, keys[7].Age+1)
		tr := sized(sizes...)
		want := deepTree(tr)
		want.Nodes[i] = nodeOf(keys[:5])
		want.Nodes = slices.Insert(want.Nodes, i+1, nodeOf(append(slices.Clone(keys[5:]), k)))
		want.Lows = slices.Insert(want.Lows, i+1, 64*keys[5].Blk+keys[5].Age)
		expectTreePut(t, "a ninth key in one of three nodes", tr, k, want)
	}
}

// TestTreePutSplitsNineKeys checks that a node is split for its ninth key alone,
// so that an even number of keys is never split: if some of the 8 keys that fill
// a node are hidden, the node is rebuilt.
func TestTreePutSplitsNineKeys(t *testing.T) {
	l := looseRun(9)
	for live := 4; live <= 8; live++ {
		n := nodeOf(l[:live])
		if live < 8 {
			n.Sets = append(n.Sets, l[:8-live])
		}
		got, ok := impl.TreePut(treeOf(n), l[8])
		nodes := 1
		if live == 8 {
			nodes = 2
		}
		if !ok || len(got.Nodes) != nodes {
			t.Errorf("TreePut(%v, %v) = %v, %v, want %d nodes", n, l[8], got, ok, nodes)
		}
		expectKeys(t, "TreeKeys", impl.TreeKeys(got), append(slices.Clone(l[:live]), l[8]))
	}
	full := treeOf(cut(l, 4, 4))
	expectTreePut(t, "a replacement", full, goneKey(1, 2), treeOf(nodeOf(putInto(l[:8], goneKey(1, 2)))))
	expectTreePut(t, "a deletion", full, noneKey(1, 2), treeOf(nodeOf(l[1:8])))
	expectTreePut(t, "a deletion of nothing", full, noneKey(1, 1), treeOf(nodeOf(l[:8])))
}

func TestTreePutSplitsAndJoins(t *testing.T) {
	for _, c := range []struct{ sizes, want []int }{
		{[]int{1, 8}, []int{6, 4}}, {[]int{2, 8}, []int{2, 5, 4}}, {[]int{1, 8, 2}, []int{6, 6}}, {[]int{1, 8, 3}, []int{6, 4, 3}},
		{[]int{8, 8, 2}, []int{8, 5, 6}}, {[]int{8, 8, 1, 1}, []int{8, 5, 6}}, {[]int{0, 8}, []int{5, 4}}, {[]int{8, 8, 8}, []int{8, 5, 4, 8}},
	} {
		k := keysOf(1, c.sizes...)[7]
		got, ok := impl.TreePut(sized(c.sizes...), goneKey(k.Blk, k.Age+1))
		if !ok || !slices.Equal(sizesOf(got), c.want) {
			t.Errorf("nodes of %v keys: the second one split: %v, %v, want %v", c.sizes, sizesOf(got), ok, c.want)
		}
		expectTreeAfterPut(t, sized(c.sizes...), goneKey(k.Blk, k.Age+1))
	}
}

func TestTreePutRemovesNodes(t *testing.T) {
	for _, c := range []struct{ sizes, want []int }{
		{[]int{8, 1, 8}, []int{8, 8}}, {[]int{7, 1}, []int{7}}, {[]int{4, 1, 3}, []int{4, 3}}, {[]int{4, 1, 2}, []int{6}},
		{[]int{0, 1}, []int{0}}, {[]int{0, 1, 7}, []int{0, 7}}, {[]int{0, 1, 6}, []int{6}},
	} {
		tr := sized(c.sizes...)
		k := keysOf(1, c.sizes...)[0]
		got, ok := impl.TreePut(tr, noneKey(k.Blk, k.Age))
		if !ok || !slices.Equal(sizesOf(got), c.want) || got.Lows[0] != 0 {
			t.Errorf("nodes of %v keys: the second one without keys: %v, %v, want %v", c.sizes, sizesOf(got), ok, c.want)
		}
		if len(c.want) == 2 && got.Lows[1] != tr.Lows[2] {
			t.Errorf("nodes of %v keys: the bound behind the second one is %d, want %d", c.sizes, got.Lows[1], tr.Lows[2])
		}
		expectTreeAfterPut(t, tr, noneKey(k.Blk, k.Age))
	}
	// Afterwards the preceding node takes the keys of that range.
	tr, _ := impl.TreePut(sized(7, 1, 8), noneKey(1, 16))
	expectTree(t, "the tree without the node", tr, impl.Tree{Lows: []int{0, sized(7, 1, 8).Lows[2]}, Nodes: []impl.Node{nodeOf(looseRun(7)), nodeOf(looseRun(16)[8:])}})
	tr, ok := impl.TreePut(tr, goneKey(1, 16))
	if !ok || !slices.Equal(sizesOf(tr), []int{8, 8}) {
		t.Errorf("the key put again: nodes of %v keys, want 8, 8", sizesOf(tr))
	}
	expectInTree(t, "the key put again", tr, goneKey(1, 16))
}

func TestTreePutRemovesNodesWithLayers(t *testing.T) {
	k := goneKey(9, 9)
	for _, n := range []impl.Node{
		nodeOf([]impl.Key{k}, []impl.Key{noneKey(9, 10)}), nodeOf([]impl.Key{noneKey(9, 9)}, []impl.Key{k, noneKey(9, 11)}),
		nodeOf([]impl.Key{goneKey(9, 10), goneKey(9, 11)}, []impl.Key{noneKey(9, 10), noneKey(9, 11)}, []impl.Key{k}),
		nodeOf([]impl.Key{k, noneKey(9, 10), noneKey(9, 11), noneKey(9, 12)}, []impl.Key{noneKey(9, 10), noneKey(9, 11), noneKey(9, 12), noneKey(9, 13)}),
	} {
		tr := impl.Tree{Lows: []int{0, 64*9 + 9}, Nodes: []impl.Node{nodeOf(looseRun(7)), n}}
		expectTreePut(t, "the only key of a node with layers deleted", tr, noneKey(9, 9), sized(7))
	}
	tr := impl.Tree{Lows: []int{0, 500}, Nodes: []impl.Node{nodeOf(looseRun(7)), nodeOf([]impl.Key{k})}}
	want := deepTree(tr)
	want.Nodes[1].Sets[0] = []impl.Key{noneKey(9, 8), k}
	expectTreePut(t, "another key deleted", tr, noneKey(9, 8), want)
}

func TestTreePutKeepsTheFirstNode(t *testing.T) {
	k := noneKey(1, 2)
	expectTreePut(t, "an only node", sized(1), k, treeOf(nodeOf([]impl.Key{k})))
	tr := sized(1, 7)
	want := deepTree(tr)
	want.Nodes[0] = nodeOf([]impl.Key{k})
	expectTreePut(t, "a first node before 7 keys", tr, k, want)
	expectTreePut(t, "a first node before 6 keys", sized(1, 6), k, treeOf(nodeOf(looseRun(7)[1:])))
	expectTreePut(t, "a first node before 1 key", sized(1, 1), k, treeOf(nodeOf(looseRun(2)[1:])))
	got, ok := impl.TreePut(want, goneKey(1, 2))
	want.Nodes[0] = nodeOf([]impl.Key{goneKey(1, 2)})
	if !ok || !sameTree(got, want) {
		t.Errorf("a key put into the first node again: %v, %v, want %v", got, ok, want)
	}
}

// TestTreePutJoinsPairs puts what changes no number of keys: the replacement of
// a key and the deletion of nothing, in either node.
func TestTreePutJoinsPairs(t *testing.T) {
	for a := range 9 {
		for b := 1; b <= 8; b++ {
			tr := sized(a, b)
			first, last := looseRun(a + 1)[a], looseRun(a + b)[a+b-1]
			for _, k := range []impl.Key{noneKey(0, 1), noneKey(15, 60), goneKey(first.Blk, first.Age), last, noneKey(last.Blk, last.Age+1)} {
				got, ok := impl.TreePut(tr, k)
				want := []int{a, b}
				if a+b <= 6 {
					want = []int{a + b}
				}
				if !ok || !slices.Equal(sizesOf(got), want) {
					t.Errorf("nodes of %d and %d keys: %v, %v, want %v", a, b, sizesOf(got), ok, want)
				}
				if a+b <= 6 && (len(got.Nodes[0].Sets) != 1 || got.Lows[0] != 0) {
					t.Errorf("nodes of %d and %d keys: %v, want one set and a bound of 0", a, b, got)
				}
				expectTreeAfterPut(t, tr, k)
			}
		}
	}
}

func TestTreePutJoinsByLiveKeys(t *testing.T) {
	l := looseRun(8)
	del := []impl.Key{noneKey(l[0].Blk, l[0].Age)}
	// 8 stored keys in the first node, of which 3 live on.
	n := nodeOf(l[:4], l[1:4], del)
	expectTreePut(t, "3 keys and 4", treeOf(n, nodeOf(l[4:7])), goneKey(15, 60), treeOf(n, nodeOf(append(slices.Clone(l[4:7]), goneKey(15, 60)))))
	expectTreePut(t, "3 keys and 3", treeOf(n, nodeOf(l[4:6])), goneKey(15, 60), treeOf(nodeOf([]impl.Key{l[1], l[2], l[3], l[4], l[5], goneKey(15, 60)})))
	expectTreePut(t, "3 keys and 2", treeOf(n, nodeOf(l[4:6])), noneKey(15, 60), treeOf(nodeOf(l[1:6])))
	second := impl.Tree{Lows: []int{0, 70}, Nodes: []impl.Node{nodeOf(l[:1]), nodeOf(l[2:6], []impl.Key{noneKey(l[2].Blk, l[2].Age)}, l[3:6])}}
	expectTreePut(t, "1 key and 3", second, noneKey(0, 1), treeOf(nodeOf([]impl.Key{l[0], l[3], l[4], l[5]})))
}

func TestTreePutJoinsSeveralPairs(t *testing.T) {
	for _, c := range []struct{ sizes, want []int }{
		{slices.Repeat([]int{1}, 20), []int{6, 6, 6, 2}}, {slices.Repeat([]int{2}, 20), []int{6, 6, 6, 6, 6, 6, 4}},
		{slices.Repeat([]int{3}, 20), slices.Repeat([]int{6}, 10)}, {[]int{1, 5, 1, 5, 1}, []int{6, 6, 1}}, {[]int{2, 5, 1, 6}, []int{2, 6, 6}},
		{[]int{8, 1, 8, 1, 1, 8}, []int{8, 1, 8, 2, 8}}, {[]int{4, 3, 3, 4}, []int{4, 6, 4}}, {[]int{3, 4, 2, 5}, []int{3, 6, 5}},
		{[]int{0, 6, 6, 1}, []int{6, 6, 1}}, {[]int{0, 1, 1, 1, 1, 1, 1, 1}, []int{6, 1}}, {[]int{3, 3, 3}, []int{6, 3}}, {[]int{5, 2, 4}, []int{5, 6}},
	} {
		tr := sized(c.sizes...)
		got, ok := impl.TreePut(tr, noneKey(0, 1))
		if !ok || !slices.Equal(sizesOf(got), c.want) {
			t.Errorf("nodes of %v keys: %v, %v, want %v", c.sizes, sizesOf(got), ok, c.want)
		}
		expectKeys(t, "TreeKeys after the joins", impl.TreeKeys(got), liveTreeKeys(tr))
		expectTreeOk(t, "after the joins", got, true)
		expectTreeAfterPut(t, tr, noneKey(0, 1))
	}
}

func TestTreePutForEachFourSizes(t *testing.T) {
	for c := range 9 * 8 * 8 * 8 {
		sizes := []int{c % 9, c/9%8 + 1, c/72%8 + 1, c/576 + 1}
		tr := sized(sizes...)
		for i, size := range sizes {
			if size == 0 {
				continue
			}
			k := keysOf(i, sizes...)[size/2]
			expectTreeAfterPut(t, tr, noneKey(k.Blk, k.Age))
			expectTreeAfterPut(t, tr, goneKey(k.Blk, k.Age))
			expectTreeAfterPut(t, tr, goneKey(k.Blk, k.Age+1))
		}
	}
}

func TestTreePutWithMaxNodes(t *testing.T) {
	for at := range 20 {
		sizes := slices.Repeat([]int{2}, 20)
		sizes[at] = 8
		k := keysOf(at, sizes...)[3]
		tr := sized(sizes...)
		// For a moment there are 21 nodes.
		got, ok := impl.TreePut(tr, goneKey(k.Blk, k.Age+1))
		if !ok || len(got.Nodes) > 20 || len(impl.TreeKeys(got)) != 47 {
			t.Errorf("the full node at %d of 20 nodes split: %v, %v", at, sizesOf(got), ok)
		}
		expectTreeAfterPut(t, tr, goneKey(k.Blk, k.Age+1))
	}
	expectNoTreePut(t, "21 nodes", sized(slices.Repeat([]int{1}, 21)...), noneKey(1, 2))
}

func TestTreePutWithMaxKeys(t *testing.T) {
	for _, sizes := range [][]int{{8, 8, 8, 8, 8, 8, 8, 4}, {4, 8, 8, 8, 8, 8, 8, 8}, {7, 7, 7, 7, 7, 7, 7, 7, 4}, {6, 6, 6, 6, 6, 6, 6, 6, 6, 6}, {0, 7, 7, 7, 7, 8, 8, 8, 8}} {
		tr := sized(sizes...)
		for _, k := range looseRun(60) {
			expectNoTreePut(t, "key 61", tr, goneKey(k.Blk, k.Age+1))
			expectTreeAfterPut(t, tr, goneKey(k.Blk, k.Age))
			expectTreeAfterPut(t, tr, noneKey(k.Blk, k.Age+1))
			next, ok := impl.TreePut(tr, goneKey(k.Blk, k.Age))
			if !ok || len(impl.TreeKeys(next)) != 60 {
				t.Errorf("one of 60 keys replaced: %v, %v", next, ok)
			}
			expectInTree(t, "one of 60 keys replaced", next, goneKey(k.Blk, k.Age))
			next, ok = impl.TreePut(tr, noneKey(k.Blk, k.Age))
			if !ok || len(impl.TreeKeys(next)) != 59 {
				t.Errorf("one of 60 keys deleted: %v, %v", next, ok)
			}
			if next, ok = impl.TreePut(next, goneKey(k.Blk, k.Age+1)); !ok || len(impl.TreeKeys(next)) != 60 {
				t.Errorf("key 60 put: %v, %v", next, ok)
			}
		}
		expectNoTreePut(t, "key 61", tr, goneKey(0, 1))
		expectNoTreePut(t, "key 61", tr, goneKey(15, 60))
	}
}

func TestTreePutStopsAtTheLength(t *testing.T) {
	tr := sized(4, 4, 4)
	short := impl.Tree{Lows: tr.Lows[:2], Nodes: tr.Nodes[:2]}
	want := sized(4, 4)
	want.Nodes[1].Sets = append(want.Nodes[1].Sets, []impl.Key{goneKey(15, 60)})
	expectTreePut(t, "a spare node", short, goneKey(15, 60), want)
	expectNoTreePut(t, "spare nodes only", impl.Tree{Lows: tr.Lows[:0], Nodes: tr.Nodes[:0]}, goneKey(1, 2))
}

// expectOnlyChange expects that k, and nothing but k, changed from before to
// after, and that the keys are in ascending order.
func expectOnlyChange(t *testing.T, before, after impl.Tree, k impl.Key) {
	t.Helper()
	expectTreeOk(t, "after a put", after, true)
	keys := liveKeys(nodeOf(impl.TreeKeys(before), []impl.Key{k}))
	expectKeys(t, "TreeKeys after a put", impl.TreeKeys(after), keys)
	for _, x := range keys {
		expectInTree(t, "after a put", after, x)
	}
	if k.Kind == impl.KNone {
		expectNotInTree(t, "after a deletion", after, k.Blk, k.Age)
	}
	for i := 1; i < len(keys); i++ {
		if !ahead(keys[i-1], keys[i]) {
			t.Errorf("%v is before %v in the tree", keys[i-1], keys[i])
		}
	}
}

// TestKeysOfATreeAreFound walks through trees of all sizes: phases in which
// most puts delete a key alternate with phases in which few do.
func TestKeysOfATreeAreFound(t *testing.T) {
	tr, seed := impl.TreeNew(), uint32(7)
	next := func(limit int) int {
		seed = seed*1664525 + 1013904223
		return int(seed>>8) % limit
	}
	full, most, splits, joins, empty := 0, 0, 0, 0, 0
	for step := range 6000 {
		k := impl.Key{Blk: next(16), Age: next(8)*8 + 1, Kind: next(3)}
		if step/600%2 == 1 && next(4) > 0 {
			k.Kind = impl.KNone
			if keys := impl.TreeKeys(tr); len(keys) > 0 {
				old := keys[next(len(keys))]
				k.Blk, k.Age = old.Blk, old.Age
			}
		}
		if k.Kind == impl.KData {
			k.Cell, k.Gen = next(24), next(1000)
		}
		expectTreeAfterPut(t, tr, k)
		after, ok := impl.TreePut(tr, k)
		if keys := liveKeys(nodeOf(impl.TreeKeys(tr), []impl.Key{k})); ok != (len(keys) <= 60) {
			t.Fatalf("TreePut(%v, %v): %v, although there are %d keys", tr, k, ok, len(keys))
		}
		if !ok {
			full++
			continue
		}
		expectOnlyChange(t, tr, after, k)
		most = max(most, len(after.Nodes))
		if len(after.Nodes) > len(tr.Nodes) {
			splits++
		}
		if len(after.Nodes) < len(tr.Nodes) {
			joins++
		}
		if len(impl.TreeKeys(after)) == 0 {
			empty++
		}
		tr = after
		if next(10) == 0 {
			i := next(len(tr.Nodes))
			tr = impl.TreePack(tr, i)
			expectTreeOk(t, "after a pack", tr, true)
		}
	}
	if full == 0 || most < 9 || splits == 0 || joins == 0 || empty == 0 {
		t.Errorf("%d full trees, at most %d nodes, %d splits, %d joins, %d empty trees: the walk is too short", full, most, splits, joins, empty)
	}
}

// TestKeysInAnyOrderAreFound puts 60 keys in several orders and deletes them in
// others.
func TestKeysInAnyOrderAreFound(t *testing.T) {
	l := looseRun(60)
	for _, put := range []int{1, 7, 29, 59} {
		for _, del := range []int{1, 11, 31, 59} {
			tr := impl.TreeNew()
			for i := range l {
				k := l[i*put%60]
				after, ok := impl.TreePut(tr, k)
				if !ok {
					t.Fatalf("TreePut(%v, %v) failed", tr, k)
				}
				expectOnlyChange(t, tr, after, k)
				tr = after
			}
			expectKeys(t, "TreeKeys", impl.TreeKeys(tr), l)
			for i := range l {
				k := noneKey(l[i*del%60].Blk, l[i*del%60].Age)
				after, ok := impl.TreePut(tr, k)
				if !ok {
					t.Fatalf("TreePut(%v, %v) failed", tr, k)
				}
				expectOnlyChange(t, tr, after, k)
				tr = after
			}
			if len(tr.Nodes) != 1 || tr.Lows[0] != 0 {
				t.Errorf("the tree without keys is %v", tr)
			}
		}
	}
}

func TestTreePack(t *testing.T) {
	l := looseRun(16)
	tr := treeOf(cut(l, 2, 2, 1), cut(l[5:], 4, 4), nodeOf(l[13:], []impl.Key{noneKey(l[13].Blk, l[13].Age)}))
	packed := []impl.Node{nodeOf(l[:5]), nodeOf(l[5:13]), nodeOf(l[14:])}
	for i, n := range packed {
		want := deepTree(tr)
		want.Nodes[i] = n
		got := impl.TreePack(tr, i)
		expectTree(t, "TreePack", got, want)
		expectTreeOk(t, "TreePack", got, true)
		expectTree(t, "TreePack of a packed node", impl.TreePack(got, i), want)
		expectKeys(t, "TreeKeys after TreePack", impl.TreeKeys(got), liveTreeKeys(tr))
	}
	for _, i := range []int{math.MinInt, -1, 3, 4, 20, math.MaxInt} {
		expectTree(t, "TreePack of no node", impl.TreePack(tr, i), tr)
		expectTree(t, "TreePack of no node", impl.TreePack(impl.Tree{}, i), impl.Tree{})
	}
	expectTree(t, "TreePack of no nodes", impl.TreePack(impl.Tree{}, 0), impl.Tree{})
	expectTree(t, "TreePack of a new tree", impl.TreePack(impl.TreeNew(), 0), impl.TreeNew())
	expectTree(t, "TreePack of deletions", impl.TreePack(treeOf(nodeOf([]impl.Key{noneKey(1, 1)})), 0), impl.TreeNew())
	// It joins nothing, although the nodes have few keys.
	expectTree(t, "TreePack of nodes with few keys", impl.TreePack(sized(1, 1, 1), 1), sized(1, 1, 1))
}

func TestTreePackOfInvalidTrees(t *testing.T) {
	for _, tr := range messyTrees() {
		for i := range tr.Nodes {
			want := deepTree(tr)
			want.Nodes[i] = nodeWith(liveKeys(tr.Nodes[i]))
			expectTree(t, "TreePack of a messy tree", impl.TreePack(tr, i), want)
		}
		expectTree(t, "TreePack of no node of a messy tree", impl.TreePack(tr, len(tr.Nodes)), tr)
	}
	tr := sized(4, 4)
	short := impl.Tree{Lows: tr.Lows, Nodes: tr.Nodes[:1]}
	expectTree(t, "TreePack of a spare node", impl.TreePack(short, 1), short)
}

// roomyTree returns a copy of t whose slices have spare capacity that holds
// something.
func roomyTree(t impl.Tree) impl.Tree {
	lows, nodes := append(slices.Clone(t.Lows), 900, 950), []impl.Node{}
	for _, n := range t.Nodes {
		nodes = append(nodes, roomyNode(n))
	}
	nodes = append(nodes, roomyNode(nodeOf(looseRun(1))), roomyNode(nodeOf(looseRun(2))))
	return impl.Tree{Lows: lows[:len(t.Lows)], Nodes: nodes[:len(t.Nodes)]}
}

// expectWholeTree expects that tr, which roomyTree made of old, has not changed,
// its spare capacity included.
func expectWholeTree(t *testing.T, what string, tr, old impl.Tree) {
	t.Helper()
	want := roomyTree(old)
	if got := tr.Lows[:len(tr.Lows)+2]; !slices.Equal(got, want.Lows[:len(got)]) {
		t.Errorf("%s: the bounds are %v", what, got)
	}
	nodes := append(slices.Clone(old.Nodes), nodeOf(looseRun(1)), nodeOf(looseRun(2)))
	for i, n := range tr.Nodes[:len(tr.Nodes)+2] {
		if len(n.Sets) != len(nodes[i].Sets) {
			t.Errorf("%s: node %d has %d sets, want %d", what, i, len(n.Sets), len(nodes[i].Sets))
			continue
		}
		expectWhole(t, what, n, nodes[i])
	}
}

// scratchTree overwrites all of t with all spare capacity.
func scratchTree(t impl.Tree) {
	lows, nodes := t.Lows[:cap(t.Lows)], t.Nodes[:cap(t.Nodes)]
	for i := range lows {
		lows[i] = -5
	}
	for i, n := range nodes {
		scratchNode(n)
		nodes[i] = impl.Node{}
	}
}

// treeCalls returns calls of chapter 6 that return trees: for some tree of
// sharingTrees each, puts that split, remove and join nodes and puts that fail.
func treeCalls() []func(t impl.Tree) impl.Tree {
	out := []func(t impl.Tree) impl.Tree{
		func(t impl.Tree) impl.Tree { return impl.TreePack(t, -1) },
		func(t impl.Tree) impl.Tree { return impl.TreePack(t, 0) },
		func(t impl.Tree) impl.Tree { return impl.TreePack(t, len(t.Nodes)-1) },
		func(t impl.Tree) impl.Tree { return impl.TreePack(t, len(t.Nodes)) },
	}
	keys := []impl.Key{{}, {Kind: 3}, goneKey(0, 1), goneKey(15, 60), noneKey(15, 60)}
	for _, k := range looseRun(20) {
		keys = append(keys, noneKey(k.Blk, k.Age), goneKey(k.Blk, k.Age), goneKey(k.Blk, k.Age+1))
	}
	for _, k := range keys {
		out = append(out, func(t impl.Tree) impl.Tree {
			x, _ := impl.TreePut(t, k)
			return x
		})
	}
	return out
}

func sharingTrees() []impl.Tree {
	l := looseRun(16)
	return []impl.Tree{
		{}, impl.TreeNew(), sized(1), sized(8), sized(1, 7), sized(1, 6), sized(8, 1, 8), sized(8, 8, 1), sized(2, 2, 2, 2), sized(6, 6, 6, 6, 6, 6, 6, 6, 6, 6),
		treeOf(cut(l, 2, 2, 1), cut(l[5:], 4, 4), cut(l[13:], 1, 2)), {Lows: []int{0, 5}}, {Nodes: []impl.Node{nodeOf(l[:2])}}, sized(4, 9),
	}
}

func TestTreesShareNoMemory(t *testing.T) {
	for _, old := range sharingTrees() {
		for _, call := range treeCalls() {
			tr := roomyTree(old)
			out := call(tr)
			want := deepTree(out)
			impl.TreeOk(tr)
			impl.TreeAt(tr, 1, 2)
			impl.WhereIn(tr, 1, 2)
			expectWholeTree(t, "the argument", tr, old)
			scratchTree(tr)
			expectTree(t, "the result after a change of the argument", out, want)
			tr = roomyTree(old)
			scratchTree(call(tr))
			expectWholeTree(t, "the argument after a change of the result", tr, old)
		}
	}
}

func TestNodesOfATreeShareNoMemory(t *testing.T) {
	for _, tr := range append(sharingTrees(), treeOf(nodeOf(looseRun(2), looseRun(2)), nodeOf(looseRun(16)[8:]))) {
		for _, call := range treeCalls() {
			for i := range call(tr).Nodes {
				out := call(tr)
				want := deepTree(out)
				scratchNode(out.Nodes[i])
				out.Nodes[i], want.Nodes[i] = impl.Node{}, impl.Node{}
				expectTree(t, "the other nodes after a change of one", out, want)
			}
		}
	}
	// In the argument, two nodes may be one and the same.
	n := nodeOf(looseRun(2))
	out := impl.TreePack(impl.Tree{Lows: []int{0, 5}, Nodes: []impl.Node{n, n}}, 2)
	scratchNode(out.Nodes[0])
	expectNode(t, "the second of two equal nodes", out.Nodes[1], nodeOf(looseRun(2)))
}

func TestTreeKeysShareNoMemory(t *testing.T) {
	for _, old := range sharingTrees() {
		tr := roomyTree(old)
		scratchKeys(impl.TreeKeys(tr))
		expectWholeTree(t, "the argument after a change of the keys", tr, old)
		keys := impl.TreeKeys(tr)
		scratchTree(tr)
		expectKeys(t, "the keys after a change of the argument", keys, liveTreeKeys(old))
	}
}
