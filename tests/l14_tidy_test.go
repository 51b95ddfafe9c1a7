package tests

import (
	"fmt"
	"math"
	"slices"
	"strings"
	"testing"

	"loop.example/g00467/impl"
)

// scatteredPool returns a valid pool in which those cells are used whose bit is
// set. Their blocks belong to two volumes, and follow in another order than the
// cells.
func scatteredPool(t *testing.T, used int) impl.Pool {
	t.Helper()
	p := impl.Pool{Ages: agesOf(1, 0, 2, 1, 3, 1), Cells: mixedCells(used), Next: 4}
	p.Vols = []impl.Vol{volAs("a", 2, 12), volAs("b", 3, 12)}
	var keys []impl.Key
	for i := range 24 {
		if at := i * 7 % 24; used>>i&1 == 1 {
			keys = append(keys, refTo(at/2, 2+at%2, i, 43*i))
		}
	}
	p.T = grown(t, keys...)
	return p
}

// layeredPool returns a valid pool with one node of three sets. The cells 5, 20,
// 21, 22 and 23 are used, and two hidden keys refer to the cells 5 and 6.
func layeredPool() impl.Pool {
	p := impl.Pool{Ages: agesOf(1, 0, 2, 0), Cells: make([]impl.Cell, 24), Next: 3}
	p.Vols = []impl.Vol{volAs("a", 1, 3), {Name: "b", Age: 2, Size: 3, Fixed: true}}
	p.T = treeOf(nodeOf(
		[]impl.Key{refTo(0, 1, 5, 7), refTo(0, 2, 6, 0), refTo(1, 1, 20, 3)},
		[]impl.Key{refTo(0, 1, 21, 4), noneKey(0, 2), refTo(1, 2, 23, 0)},
		[]impl.Key{refTo(2, 1, 5, 7), refTo(2, 2, 22, 999)}))
	p.Cells[0].Gen, p.Cells[1].Gen = 998, 999
	for i, c := range map[int]impl.Cell{5: cellAs(7, 50), 20: cellAs(3, 200), 21: cellAs(4, 0), 22: cellAs(999, 65535), 23: cellAs(0, 230)} {
		p.Cells[i] = c
	}
	return p
}

// afterPack says what PackStep returns, in the words of chapter 14.
func afterPack(p impl.Pool, i int) (impl.Pool, bool) {
	if !validPool(p) || !within(i, 0, len(p.T.Nodes)-1) {
		return p, false
	}
	out := deepPool(p)
	out.T.Nodes[i] = nodeWith(liveKeys(p.T.Nodes[i]))
	return out, true
}

// afterMove says what MoveStep returns, in the words of chapter 14.
func afterMove(p impl.Pool, i int) (impl.Pool, bool) {
	if !validPool(p) || !within(i, 0, 23) || !p.Cells[i].Used {
		return p, false
	}
	cells, to, ok := afterTake(p.Cells, p.Cells[i].N)
	if !ok || to >= i {
		return p, false
	}
	keys := liveTreeKeys(p.T)
	k := keys[slices.IndexFunc(keys, func(k impl.Key) bool { return k.Kind == impl.KData && k.Cell == i })]
	out := deepPool(p)
	out.T, ok = treeAfterPut(p.T, refTo(k.Blk, k.Age, to, cells[to].Gen))
	out.Cells = afterFree(cells, i)
	if !ok || !validPool(out) {
		return p, false
	}
	return out, true
}

// lastUsedIn returns the index of the last used cell, or -1.
func lastUsedIn(l []impl.Cell) int {
	out := len(l) - 1
	for out >= 0 && !l[out].Used {
		out--
	}
	return out
}

// afterAllMoves says what MoveAll returns, and the number of steps.
func afterAllMoves(p impl.Pool) (impl.Pool, int) {
	for n := range 24 {
		out, ok := afterMove(p, lastUsedIn(p.Cells))
		if !ok {
			return p, n
		}
		p = out
	}
	return p, 24
}

// tidyCells says which cells MoveAll leaves: the last word goes to the first gap
// until they meet.
func tidyCells(l []impl.Cell) []impl.Cell {
	out := slices.Clone(l)
	for i, j := 0, len(l)-1; i < j; {
		switch {
		case out[i].Used:
			i++
		case !out[j].Used:
			j--
		default:
			out[i] = cellAs(out[i].Gen, out[j].N)
			out[j] = impl.Cell{Gen: (out[j].Gen + 1) % 1000}
		}
	}
	return out
}

// expectSameStore expects that got, made of a valid pool p, is valid, that its
// volumes have the same contents and that as many cells are used. Only the tree
// and the cells may differ, and of the keys only the cells.
func expectSameStore(t *testing.T, what string, p, got impl.Pool) {
	t.Helper()
	if !validPool(got) || !impl.PoolOk(got) {
		t.Fatalf("%s of %v gives %v, which is not valid", what, p, got)
	}
	if !equalMaps(mapsIn(got), mapsIn(p)) || !impl.SameMaps(impl.MapsOf(got), impl.MapsOf(p)) {
		t.Fatalf("%s of %v gives %v: the contents are %v, want %v", what, p, got, mapsIn(got), mapsIn(p))
	}
	if usedIn(got.Cells) != usedIn(p.Cells) || impl.UsedCells(got.Cells) != impl.UsedCells(p.Cells) {
		t.Fatalf("%s of %v leaves the cells %v", what, p, got.Cells)
	}
	if !slices.Equal(got.Vols, p.Vols) || !slices.Equal(got.Ages, p.Ages) || got.Next != p.Next {
		t.Fatalf("%s of %v gives %v", what, p, got)
	}
	sameWord := func(a, b impl.Key) bool {
		n, ok := inCell(got.Cells, a.Cell, a.Gen)
		m, is := inCell(p.Cells, b.Cell, b.Gen)
		return a.Blk == b.Blk && a.Age == b.Age && a.Kind == b.Kind && (a.Kind == impl.KGone || n == m && ok && is)
	}
	if !slices.EqualFunc(liveTreeKeys(got.T), liveTreeKeys(p.T), sameWord) {
		t.Fatalf("%s of %v gives the keys %v", what, p, liveTreeKeys(got.T))
	}
}

// expectTidy compares the result of a step on a valid pool with the chapter's
// wording and with the pool before.
func expectTidy(t *testing.T, what string, p, got impl.Pool, ok bool, want impl.Pool, is bool) impl.Pool {
	t.Helper()
	if ok != is || !samePool(got, want) {
		t.Fatalf("%s of %v gives %v, %v, want %v, %v", what, p, got, ok, want, is)
	}
	expectSameStore(t, what, p, got)
	return got
}

// expectPack performs PackStep on a valid pool.
func expectPack(t *testing.T, what string, p impl.Pool, i int) (impl.Pool, bool) {
	t.Helper()
	got, ok := impl.PackStep(p, i)
	want, is := afterPack(p, i)
	return expectTidy(t, fmt.Sprint(what, ", PackStep ", i), p, got, ok, want, is), ok
}

// expectMove performs MoveStep on a valid pool.
func expectMove(t *testing.T, what string, p impl.Pool, i int) (impl.Pool, bool) {
	t.Helper()
	got, ok := impl.MoveStep(p, i)
	want, is := afterMove(p, i)
	return expectTidy(t, fmt.Sprint(what, ", MoveStep ", i), p, got, ok, want, is), ok
}

// expectMoveAll performs MoveAll on a valid pool and returns the number of steps
// that this takes.
func expectMoveAll(t *testing.T, what string, p impl.Pool) (impl.Pool, int) {
	t.Helper()
	want, n := afterAllMoves(p)
	got := expectTidy(t, what+", MoveAll", p, impl.MoveAll(p), true, want, true)
	expectCells(t, what+", MoveAll", got.Cells, tidyCells(p.Cells))
	for i, c := range got.Cells {
		if c.Used != (i < usedIn(p.Cells)) {
			t.Fatalf("%s: MoveAll(%v) leaves %v", what, p, got.Cells)
		}
	}
	return got, n
}

// expectEachStep performs PackStep and MoveStep with each index on a valid pool,
// and counts the steps.
func expectEachStep(t *testing.T, what string, p impl.Pool, counts map[string]int) {
	t.Helper()
	for i := -1; i <= len(p.T.Nodes); i++ {
		_, ok := expectPack(t, what, p, i)
		counts[fmt.Sprint("pack ", ok)]++
	}
	for i := -1; i <= 24; i++ {
		_, ok := expectMove(t, what, p, i)
		counts[fmt.Sprint("move ", ok)]++
	}
}

// expectNoPack and expectNoMove expect that the step does not apply to p, valid
// or not.
func expectNoPack(t *testing.T, what string, p impl.Pool, i int) {
	t.Helper()
	if got, ok := impl.PackStep(p, i); ok || !samePool(got, p) {
		t.Errorf("%s: PackStep(%v, %d) = %v, %v, want the pool, false", what, p, i, got, ok)
	}
}

func expectNoMove(t *testing.T, what string, p impl.Pool, i int) {
	t.Helper()
	if got, ok := impl.MoveStep(p, i); ok || !samePool(got, p) {
		t.Errorf("%s: MoveStep(%v, %d) = %v, %v, want the pool, false", what, p, i, got, ok)
	}
}

func expectPackGives(t *testing.T, what string, p impl.Pool, i int, want impl.Pool) {
	t.Helper()
	got, ok := impl.PackStep(p, i)
	if !ok || !samePool(got, want) {
		t.Errorf("%s: PackStep(%v, %d) = %v, %v, want %v, true", what, p, i, got, ok, want)
	}
	expectSameStore(t, what, p, got)
}

func expectMoveGives(t *testing.T, what string, p impl.Pool, i int, want impl.Pool) {
	t.Helper()
	got, ok := impl.MoveStep(p, i)
	if !ok || !samePool(got, want) {
		t.Errorf("%s: MoveStep(%v, %d) = %v, %v, want %v, true", what, p, i, got, ok, want)
	}
	expectSameStore(t, what, p, got)
}

// TestPackStep packs nodes that have layers, hidden keys and deletions.
func TestPackStep(t *testing.T) {
	packed := []impl.Node{
		nodeOf([]impl.Key{refTo(0, 1, 3, 123), refTo(0, 4, 8, 328), goneKey(0, 6), refTo(1, 2, 0, 0), refTo(1, 4, 9, 369), refTo(1, 6, 7, 999)}),
		nodeOf([]impl.Key{refTo(2, 3, 23, 943), goneKey(3, 1), refTo(3, 7, 4, 164), refTo(5, 2, 5, 205), refTo(11, 3, 6, 246)}),
	}
	for i, n := range packed {
		want := richPool()
		want.T.Nodes[i] = n
		expectPackGives(t, "a rich pool", richPool(), i, want)
		expectPackGives(t, "a packed node", want, i, want)
		both := richPool()
		both.T.Nodes = packed
		expectPackGives(t, "the other node is packed", want, 1-i, both)
	}
	want := layeredPool()
	want.T.Nodes[0] = nodeOf([]impl.Key{refTo(0, 1, 21, 4), refTo(1, 1, 20, 3), refTo(1, 2, 23, 0), refTo(2, 1, 5, 7), refTo(2, 2, 22, 999)})
	expectPackGives(t, "three sets", layeredPool(), 0, want)
}

// TestPackStepOfEachNode packs each node of pools whose nodes have one set, which
// changes nothing, and of pools whose nodes have a deletion as well.
func TestPackStepOfEachNode(t *testing.T) {
	for _, n := range []int{1, 2, 19, 20} {
		p := nodesPool(n)
		q := nodesPool(n)
		for i := 1; i < n; i++ {
			first := p.T.Nodes[i].Sets[0][0]
			q.T.Nodes[i] = nodeOf([]impl.Key{first, goneKey(first.Blk, first.Age+1)}, []impl.Key{noneKey(first.Blk, first.Age+1)})
		}
		for i := range n {
			expectPackGives(t, "one set", p, i, p)
			want := deepPool(q)
			want.T.Nodes[i] = nodeWith(liveKeys(q.T.Nodes[i]))
			expectPackGives(t, "two sets", q, i, want)
		}
		for _, i := range append(slices.Clone(farInts), n, n+1, 20, 21, 24) {
			expectNoPack(t, "one set, no such node", p, i)
			expectNoPack(t, "two sets, no such node", q, i)
		}
	}
}

// TestPackStepOfTheFirstNode packs a first node that has no keys to keep: it stays
// without a set.
func TestPackStepOfTheFirstNode(t *testing.T) {
	expectPackGives(t, "a new pool", impl.PoolNew(), 0, impl.PoolNew())
	for _, sets := range [][][]impl.Key{
		{{noneKey(0, 1)}},
		{{noneKey(0, 1), noneKey(0, 2), noneKey(15, 60)}},
		{{refTo(0, 1, 3, 4)}, {noneKey(0, 1)}},
		{{goneKey(0, 1)}, {refTo(0, 1, 0, 0)}, {noneKey(0, 1)}},
	} {
		p := created(t, impl.PoolNew(), "a", 1)
		want := deepPool(p)
		p.T = treeOf(nodeOf(sets...))
		expectPackGives(t, "deletions", p, 0, want)
		expectNoPack(t, "deletions", p, 1)
	}
}

// TestPackStepJoinsNothing packs a node whose neighbours have few keys.
func TestPackStepJoinsNothing(t *testing.T) {
	p := volsPool(3)
	p.T = treeOf(nodeOf([]impl.Key{goneKey(0, 1)}, []impl.Key{noneKey(0, 1)}), nodeOf([]impl.Key{goneKey(1, 1)}, []impl.Key{goneKey(1, 2)}), nodeOf([]impl.Key{goneKey(2, 3)}))
	want := deepPool(p)
	want.T.Nodes[1] = nodeOf([]impl.Key{goneKey(1, 1), goneKey(1, 2)})
	expectPackGives(t, "few keys", p, 1, want)
	want.T.Nodes[0] = impl.Node{}
	p, _ = impl.PackStep(p, 1)
	expectPackGives(t, "no keys", p, 0, want)
	expectPackGives(t, "one key", want, 2, want)
}

// TestMoveStep moves each cell of a pool with hidden keys. The first unused cell
// is 0, in generation 998.
func TestMoveStep(t *testing.T) {
	moved := func(i int, tree impl.Tree) impl.Pool {
		want := layeredPool()
		want.T = tree
		want.Cells[0], want.Cells[i] = cellAs(998, want.Cells[i].N), impl.Cell{Gen: (want.Cells[i].Gen + 1) % 1000}
		return want
	}
	sets := layeredPool().T.Nodes[0].Sets
	live := liveKeys(layeredPool().T.Nodes[0])
	// The hidden key of block 0 refers to the same cell and is not changed.
	expectMoveGives(t, "a key of the last set", layeredPool(), 5, moved(5, treeOf(nodeOf(sets[0], sets[1], []impl.Key{refTo(2, 1, 0, 998), sets[2][1]}))))
	expectMoveGives(t, "a word of 65535", layeredPool(), 22, moved(22, treeOf(nodeOf(sets[0], sets[1], []impl.Key{sets[2][0], refTo(2, 2, 0, 998)}))))
	// A ninth key has no room, so the node is rebuilt.
	for i, at := range map[int]int{21: 0, 20: 1, 23: 2} {
		keys := slices.Clone(live)
		keys[at].Cell, keys[at].Gen = 0, 998
		expectMoveGives(t, "a key of another set", layeredPool(), i, moved(i, treeOf(nodeOf(keys))))
	}
	for i := range 24 {
		if !layeredPool().Cells[i].Used {
			expectNoMove(t, "an unused cell", layeredPool(), i)
		}
	}
	for _, i := range append(slices.Clone(farInts), 24, 25, 999) {
		expectNoMove(t, "no such cell", layeredPool(), i)
		expectNoMove(t, "no such cell of a new pool", impl.PoolNew(), i)
		expectNoMove(t, "no such cell of a full pool", cellsPool(t, 24), i)
	}
}

// TestMoveStepAddsALayer moves a word whose key is in a filled set.
func TestMoveStepAddsALayer(t *testing.T) {
	p := poolWith(t, agesOf(1, 0), []impl.Vol{volAs("a", 1, 8)}, refTo(0, 1, 10, 1), refTo(1, 1, 11, 2), refTo(2, 1, 12, 3), refTo(3, 1, 13, 4), refTo(4, 1, 14, 5))
	p.Cells[0].Gen = 6
	sets := p.T.Nodes[0].Sets
	want := deepPool(p)
	want.T = treeOf(nodeOf(sets[0], []impl.Key{refTo(2, 1, 0, 6), refTo(4, 1, 14, 5)}))
	want.Cells[0], want.Cells[12] = cellAs(6, 112), impl.Cell{Gen: 4}
	expectMoveGives(t, "a filled set", p, 12, want)
	packed, _ := impl.PackStep(want, 0)
	expectTree(t, "a filled set, packed", packed.T, treeOf(nodeOf([]impl.Key{refTo(0, 1, 10, 1), refTo(1, 1, 11, 2), refTo(2, 1, 0, 6), refTo(3, 1, 13, 4), refTo(4, 1, 14, 5)})))
}

// TestMoveStepJoinsNodes moves a word of a pool whose nodes have few keys: they
// are joined as with each key that is stored.
func TestMoveStepJoinsNodes(t *testing.T) {
	p := poolWith(t, agesOf(1, 0), []impl.Vol{volAs("a", 1, 12)}, refTo(0, 1, 3, 0), refTo(5, 1, 7, 0), refTo(9, 1, 9, 0))
	keys := liveTreeKeys(p.T)
	p.T = loose(keys...)
	p.T.Lows = []int{0, 64 * 5, 64 * 9}
	want := deepPool(p)
	want.T = treeOf(nodeOf([]impl.Key{keys[0], refTo(5, 1, 0, 0), keys[2]}))
	want.Cells[0], want.Cells[7] = cellAs(want.Cells[0].Gen, 107), impl.Cell{Gen: 1}
	want.T.Nodes[0].Sets[0][1].Gen = want.Cells[0].Gen
	expectMoveGives(t, "few keys", p, 7, want)
}

// TestMoveStepToEachCell has the cells below to used, and the cell with index i.
func TestMoveStepToEachCell(t *testing.T) {
	for i := range 24 {
		for to := range 24 {
			p := scatteredPool(t, 1<<to-1|1<<i)
			if to >= i {
				expectNoMove(t, "no unused cell ahead", p, i)
				continue
			}
			got, ok := expectMove(t, "one cell behind", p, i)
			want := withCell(withCell(p.Cells, to, cellAs(43*to, 65535-i*i)), i, impl.Cell{Gen: 43*i + 1})
			if !ok || !slices.Equal(got.Cells, want) {
				t.Errorf("MoveStep(%v, %d) = %v, %v, want the cells %v", p, i, got, ok, want)
			}
			at := i * 7 % 24
			expectInTree(t, "one cell behind", got.T, refTo(at/2, 2+at%2, to, 43*to))
			expectNoMove(t, "the cell that is moved", got, i)
			expectNoMove(t, "the cell that it is moved to", got, to)
		}
	}
}

// TestMoveStepOfTheLastUsedCell moves the last used cell, behind which there are
// unused ones, and the one before it.
func TestMoveStepOfTheLastUsedCell(t *testing.T) {
	p := scatteredPool(t, 0b1011011)
	for _, c := range []struct {
		i, to int
	}{{6, 2}, {4, 2}, {3, 2}} {
		got, ok := expectMove(t, "cells in between", p, c.i)
		if !ok || got.Cells[c.to] != cellAs(43*c.to, p.Cells[c.i].N) || got.Cells[c.i].Used {
			t.Errorf("MoveStep(%v, %d) = %v, %v", p, c.i, got, ok)
		}
	}
	for _, i := range []int{0, 1, 2, 5, 7, 23} {
		expectNoMove(t, "cells in between", p, i)
	}
	got, n := expectMoveAll(t, "cells in between", p)
	if n != 1 || impl.UsedCells(got.Cells[:5]) != 5 {
		t.Errorf("MoveAll(%v) = %v in %d steps", p, got, n)
	}
}

// TestEachGenerationIsMoved moves a word from a cell of each generation to a cell
// of each generation.
func TestEachGenerationIsMoved(t *testing.T) {
	for gen := range 1000 {
		for _, to := range []int{0, 1, 998, 999, gen, 999 - gen} {
			p := poolWith(t, agesOf(1, 0), []impl.Vol{volAs("a", 1, 1)}, refTo(0, 1, 23, gen))
			p.Cells[0].Gen = to
			want := deepPool(p)
			want.T = grown(t, refTo(0, 1, 0, to))
			want.Cells[0], want.Cells[23] = cellAs(to, 123), impl.Cell{Gen: (gen + 1) % 1000}
			expectMoveGives(t, "a generation", p, 23, want)
			got, _ := impl.MoveStep(p, 23)
			expectNotInCell(t, "the old cell", got.Cells, 23, gen)
			expectNotInCell(t, "the old cell in its next generation", got.Cells, 23, (gen+1)%1000)
			expectInCell(t, "the new cell", got.Cells, 0, to, 123)
		}
	}
}

// TestMoveStepStoresEachWord moves the words that are easily taken for something
// else.
func TestMoveStepStoresEachWord(t *testing.T) {
	for _, n := range []int{0, 1, 255, 256, 999, 1000, 32767, 32768, 65534, 65535} {
		p := poolWith(t, agesOf(1, 0), []impl.Vol{volAs("a", 1, 3)}, refTo(2, 1, 4, 8))
		p.Cells[4].N = n
		got, ok := expectMove(t, "a word", p, 4)
		expectContents(t, "a word", got, map[string][]int{"a": {0, 0, n}})
		if !ok || got.Cells[0].N != n || got.Cells[4] != (impl.Cell{Gen: 9}) {
			t.Errorf("MoveStep(%v, 4) = %v, %v", p, got, ok)
		}
	}
}

// TestMoveAllOfEachPattern moves the words of many choices of used cells.
func TestMoveAllOfEachPattern(t *testing.T) {
	steps := map[int]int{}
	for turn, used := range append(somePatterns(), 0, allUsed) {
		// A part of them is enough, but each with one cell or with all but one:
		// these come last.
		if turn%5 != 0 && turn < 6144 {
			continue
		}
		p := scatteredPool(t, used)
		got, n := expectMoveAll(t, "a pattern", p)
		steps[n]++
		if again := impl.MoveAll(got); !samePool(again, got) {
			t.Fatalf("MoveAll(%v) = %v", got, again)
		}
	}
	for n := range 10 {
		if steps[n] < 2 {
			t.Errorf("the numbers of steps are %v", steps)
		}
	}
}

// TestMoveAllAtTheLimits covers pools in which no step or many apply.
func TestMoveAllAtTheLimits(t *testing.T) {
	for _, c := range []struct {
		what        string
		used, steps int
	}{
		{"no used cell", 0, 0},
		{"the first cell", 1, 0},
		{"the first two cells", 3, 0},
		{"all cells but the last", allUsed >> 1, 0},
		{"all cells", allUsed, 0},
		{"the second cell", 2, 1},
		{"the last cell", 1 << 23, 1},
		{"the first cell and the last", 1<<23 | 1, 1},
		{"all cells but the first", allUsed &^ 1, 1},
		{"all cells but the last but one", allUsed &^ (1 << 22), 1},
		{"the last 12 cells", allUsed &^ 0xfff, 12},
		{"the last 11 cells", allUsed &^ 0x1fff, 11},
		{"the last 13 cells", allUsed &^ 0x7ff, 11},
		{"each second cell from the first", 0x555555, 6},
		{"each second cell", 0xaaaaaa, 6},
	} {
		p := scatteredPool(t, c.used)
		got, n := expectMoveAll(t, c.what, p)
		if n != c.steps {
			t.Errorf("%s: %d steps, want %d", c.what, n, c.steps)
		}
		for i := -1; i <= 24; i++ {
			expectNoMove(t, c.what+", afterwards", got, i)
		}
		if c.steps == 0 {
			expectPool(t, c.what, got, p)
		}
	}
	expectPool(t, "a new pool", impl.MoveAll(impl.PoolNew()), impl.PoolNew())
}

// TestMoveAllStartsWithTheLastCell states which words go where.
func TestMoveAllStartsWithTheLastCell(t *testing.T) {
	p := layeredPool()
	want := deepPool(p)
	for i, c := range []impl.Cell{cellAs(998, 230), cellAs(999, 65535), cellAs(0, 0), cellAs(0, 200), {}, cellAs(7, 50)} {
		want.Cells[i] = c
	}
	want.Cells[4] = cellAs(0, 50)
	want.Cells[5], want.Cells[20], want.Cells[21], want.Cells[22], want.Cells[23] = impl.Cell{Gen: 8}, impl.Cell{Gen: 4}, impl.Cell{Gen: 5}, impl.Cell{}, impl.Cell{Gen: 1}
	got, n := expectMoveAll(t, "three sets", p)
	expectCells(t, "three sets", got.Cells, want.Cells)
	expectKeys(t, "three sets", impl.TreeKeys(got.T), []impl.Key{refTo(0, 1, 2, 0), refTo(1, 1, 3, 0), refTo(1, 2, 0, 998), refTo(2, 1, 4, 0), refTo(2, 2, 1, 999)})
	expectContents(t, "three sets", got, map[string][]int{"a": {0, 200, 50}, "b": {0, 230, 65535}})
	if n != 5 {
		t.Errorf("three sets: %d steps", n)
	}
}

// TestMoveAllAfterWrites writes blocks again and again, which leaves gaps, and
// discards some.
func TestMoveAllAfterWrites(t *testing.T) {
	p := created(t, impl.PoolNew(), "a", 12)
	for i := range 40 {
		p = written(t, p, "a", i*5%12, 1000+i)
		if i%4 == 3 {
			p = discarded(t, p, "a", i%12)
		}
	}
	before := contents(p)
	got, n := expectMoveAll(t, "written blocks", p)
	if n == 0 {
		t.Errorf("written blocks: there are no gaps in %v", p.Cells)
	}
	expectContents(t, "written blocks", got, before)
	// What comes next finds the same contents.
	got = written(t, snapped(t, got, "a", "b", false), "b", 3, 7)
	before["b"] = slices.Clone(before["a"])
	before["b"][3] = 7
	expectContents(t, "written blocks, a snapshot", got, before)
	expectMoveAll(t, "written blocks, a snapshot", impl.PruneAll(killed(t, got, "a")))
}

func TestTidyOfSoundPools(t *testing.T) {
	counts := map[string]int{}
	for what, p := range soundPools(t) {
		for _, q := range []impl.Pool{p, wide(p)} {
			expectEachStep(t, what, q, counts)
			got, _ := expectMoveAll(t, what, q)
			expectEachStep(t, what+", moved", got, counts)
			for i := range q.T.Nodes {
				q, _ = expectPack(t, what, q, i)
			}
			expectEachStep(t, what+", packed", q, counts)
			expectMoveAll(t, what+", packed", q)
		}
	}
	for _, what := range []string{"pack true", "pack false", "move true", "move false"} {
		if counts[what] < 20 {
			t.Errorf("few steps of a kind: %v", counts)
		}
	}
}

// TestTidyInvalidPools covers each reason why a pool is not valid.
func TestTidyInvalidPools(t *testing.T) {
	pools := badPools()
	bad := layeredPool()
	bad.Cells[9] = cellAs(0, 5)
	pools["a used cell that no key refers to"] = bad
	bad = layeredPool()
	bad.Cells[22] = impl.Cell{}
	pools["a key of an unused cell"] = bad
	bad = layeredPool()
	bad.T.Nodes[0].Sets[2][1] = refTo(2, 2, 5, 7)
	pools["two keys of one cell"] = bad
	bad = layeredPool()
	bad.T.Nodes = append(bad.T.Nodes, impl.Node{})
	pools["a node without a bound"] = bad
	for what, p := range pools {
		expectPoolOk(t, what, p, false)
		for _, i := range append(slices.Clone(farInts), 0, 1, 2, 3, len(p.T.Nodes)-1, len(p.T.Nodes), 20) {
			expectNoPack(t, what, p, i)
		}
		for i := -1; i <= len(p.Cells)+1; i++ {
			expectNoMove(t, what, p, i)
		}
		expectPool(t, what+", MoveAll", impl.MoveAll(p), p)
	}
}

// tidied performs a step that the number chooses.
func tidied(t *testing.T, p impl.Pool, choice int, counts map[string]int) impl.Pool {
	t.Helper()
	ok := false
	switch choice % 12 {
	case 0, 1:
		p, ok = expectPack(t, "the walk", p, choice/12%(len(p.T.Nodes)+1))
		counts[fmt.Sprint("PackStep ", ok)]++
	case 2, 3, 4:
		p, ok = expectMove(t, "the walk", p, choice/12%26-1)
		counts[fmt.Sprint("MoveStep ", ok)]++
	case 5, 6, 7:
		p, ok = expectMove(t, "the walk", p, lastUsedIn(p.Cells))
		counts[fmt.Sprint("MoveStep of the last used cell ", ok)]++
	case 8:
		var n int
		p, n = expectMoveAll(t, "the walk", p)
		counts[fmt.Sprint("MoveAll ", n > 0)]++
	default:
		p, ok = impl.PruneStep(p)
		counts[fmt.Sprint("PruneStep ", ok)]++
	}
	return p
}

// TestWalksWithCompaction performs operations of all kinds, prunes and compacts
// in between, and now and then tries each step. The words that the volumes have
// are compared with volumes that share nothing, but not after Resize: pruning
// removes the marks behind the size of a volume.
func TestWalksWithCompaction(t *testing.T) {
	seed := uint32(1414)
	next := func(limit int) int {
		seed = seed*1664525 + 1013904223
		return int(seed>>8) % limit
	}
	names := []string{"a", "b", "d", "z"}
	sound := soundPools(t)
	starts := append(sortedNames(sound), slices.Repeat([]string{"a new pool"}, 20)...)
	counts := map[string]int{}
	for _, start := range starts {
		p := wide(sound[start])
		name := func() string {
			if len(p.Vols) > 0 && next(3) > 0 {
				return p.Vols[next(len(p.Vols))].Name
			}
			return names[next(len(names))]
		}
		l := impl.MapsOf(p)
		for range 60 {
			o := writePair(name(), next(12), next(65536))
			switch next(20) {
			case 0:
				o = createPair(names[next(4)], 12)
			case 1, 2:
				o = snapPair(name(), names[next(4)], next(4) == 0)
			case 3, 4, 5:
				o = discardPair(name(), next(12))
			case 6:
				o = killPair(name())
			case 7:
				size := 1 + next(12)
				out, code := impl.Resize(p, name(), size)
				counts[fmt.Sprint("Resize ", code)]++
				p, l = out, impl.MapsOf(out)
			}
			out, code, _ := expectSameEffect(t, p, o)
			counts[fmt.Sprint(strings.Fields(o.pool.what)[0], " ", code)]++
			if code == impl.CoGood {
				l, _ = o.maps.call(l)
			}
			for range next(3) {
				out = tidied(t, out, next(1<<20), counts)
			}
			if next(16) == 0 {
				expectEachStep(t, "the walk", out, counts)
			}
			expectMaps(t, "the walk", impl.MapsOf(out), l)
			p = out
		}
	}
	for _, what := range []string{"PackStep true", "PackStep false", "MoveStep true", "MoveStep false", "MoveStep of the last used cell true", "MoveStep of the last used cell false", "MoveAll true", "MoveAll false",
		"PruneStep true", "Create 0", "Snap 0", "Kill 0", "Write 0", "Write 5", "Discard 0", "Resize 0", "pack true", "move true", "move false"} {
		if counts[what] < 20 {
			t.Errorf("the walk is too short for %s: %v", what, counts)
		}
	}
}

// TestNodesOfAllPatternsArePacked packs nodes of all divisions into sets, with
// deletions and hidden keys.
func TestNodesOfAllPatternsArePacked(t *testing.T) {
	counts := 0
	ages := agesOf(1, 0, 2, 1, 3, 1)
	vols := []impl.Vol{volAs("a", 2, 2), volAs("b", 3, 2)}
	for state := range power(4, 6) {
		p := impl.Pool{Ages: ages, Cells: mixedCells(0), Vols: vols, Next: 4}
		var sets [3][]impl.Key
		for i := range 6 {
			// Two positions in each of three sets.
			set, age := i/2, 1+i%2
			switch state >> (2 * i) & 3 {
			case 1:
				sets[set] = append(sets[set], refTo(1, age, i, 43*i))
			case 2:
				sets[set] = append(sets[set], goneKey(1, age))
			case 3:
				sets[set] = append(sets[set], noneKey(1, age))
			}
		}
		var n impl.Node
		for _, s := range sets {
			if len(s) > 0 {
				n.Sets = append(n.Sets, s)
			}
		}
		p.T = treeOf(n)
		for _, k := range liveKeys(n) {
			if k.Kind == impl.KData {
				p.Cells[k.Cell] = cellAs(k.Gen, 500+k.Cell)
			}
		}
		if got, _ := expectPack(t, "a node", p, 0); !samePool(got, p) {
			counts++
		}
		for i := range 7 {
			expectMove(t, "a node", p, i)
		}
	}
	if counts < 3000 {
		t.Errorf("few nodes are changed: %d", counts)
	}
}

// tidyCalls returns calls of chapter 14 that return pools: steps that apply and
// steps that do not.
func tidyCalls() map[string]func(p impl.Pool) impl.Pool {
	out := map[string]func(p impl.Pool) impl.Pool{"MoveAll": impl.MoveAll}
	for _, i := range []int{-1, 0, 1, 2, 19, 20} {
		out[fmt.Sprint("PackStep ", i)] = func(p impl.Pool) impl.Pool {
			out, _ := impl.PackStep(p, i)
			return out
		}
	}
	for _, i := range []int{-1, 0, 1, 3, 9, 22, 23, 24} {
		out[fmt.Sprint("MoveStep ", i)] = func(p impl.Pool) impl.Pool {
			out, _ := impl.MoveStep(p, i)
			return out
		}
	}
	return out
}

func TestTidyPoolsShareNoMemory(t *testing.T) {
	pools := append(somePools(t), layeredPool(), scatteredPool(t, 1<<23), scatteredPool(t, 0xaaaaaa), scatteredPool(t, allUsed&^0xfff), familyPool(t))
	changed := map[string]int{}
	for _, old := range pools {
		for what, call := range tidyCalls() {
			if out := expectOwnMemory(t, what, old, call); !samePool(out, old) {
				changed[what[:4]]++
			}
		}
	}
	if changed["Pack"] < 3 || changed["Move"] < 10 {
		t.Errorf("few pools are changed: %v", changed)
	}
}

// TestTidyStopsAtTheLength gives a pool spare nodes, cells and volumes.
func TestTidyStopsAtTheLength(t *testing.T) {
	p := layeredPool()
	p.T.Nodes, p.T.Lows = append(p.T.Nodes, nodeOf([]impl.Key{goneKey(9, 1)}, []impl.Key{goneKey(10, 1)}))[:1], append(p.T.Lows, 64*9)[:1]
	expectNoPack(t, "a spare node", p, 1)
	p.Cells = append(p.Cells, cellAs(5, 6))[:24]
	expectNoMove(t, "a spare cell", p, 24)
	expectMoveAll(t, "a spare cell", p)
	p.Cells = p.Cells[:23]
	expectPool(t, "23 cells", impl.MoveAll(p), p)
	for i := range 25 {
		expectNoMove(t, "23 cells", p, i)
	}
	expectNoPack(t, "23 cells", p, 0)
	for _, i := range []int{math.MinInt, math.MaxInt} {
		expectNoPack(t, "the farthest index", layeredPool(), i)
		expectNoMove(t, "the farthest index", layeredPool(), i)
	}
}
