package tests

import (
	"fmt"
	"math"
	"slices"
	"strings"
	"testing"

	"loop.example/g00467/impl"
)

// badNames are strings that are not names.
var badNames = []string{"", "A", "aB", "abcdefg", "a b", "a-", "a\n", "\x00", "ä", "\xff", strings.Repeat("a", 65537)}

// withVol returns the volumes of l and v in ascending order of their names.
func withVol(l []impl.Vol, v impl.Vol) []impl.Vol {
	out := append(slices.Clone(l), v)
	slices.SortFunc(out, func(a, b impl.Vol) int { return strings.Compare(a.Name, b.Name) })
	return out
}

// unlessFull returns the new pool out, or p and CoFull if out is not valid or
// something was exhausted.
func unlessFull(p, out impl.Pool, ok bool) (impl.Pool, int) {
	if !ok || !validPool(out) {
		return p, impl.CoFull
	}
	return out, impl.CoGood
}

// afterCreate says what Create returns, in the words of chapter 11.
func afterCreate(p impl.Pool, name string, size int) (impl.Pool, int) {
	switch {
	case !validPool(p) || !validName(name):
		return p, impl.CoForm
	case volNamed(p, name) >= 0:
		return p, impl.CoThere
	case !within(size, 1, 12):
		return p, impl.CoRange
	}
	out := deepPool(p)
	ages, ok := afterNew(p.Ages, p.Next, 0)
	out.Ages, out.Next = ages, p.Next+1
	out.Vols = withVol(p.Vols, volAs(name, p.Next, size))
	return unlessFull(p, out, ok)
}

// afterSnap says what Snap returns, in the words of chapter 11.
func afterSnap(p impl.Pool, name, to string, fixed bool) (impl.Pool, int) {
	at := volNamed(p, name)
	switch {
	case !validPool(p) || !validName(name) || !validName(to):
		return p, impl.CoForm
	case at < 0:
		return p, impl.CoNone
	case volNamed(p, to) >= 0:
		return p, impl.CoThere
	}
	out := deepPool(p)
	first, ok := afterNew(p.Ages, p.Next, p.Vols[at].Age)
	both, ok2 := afterNew(first, p.Next+1, p.Vols[at].Age)
	out.Ages, out.Next = both, p.Next+2
	out.Vols[at].Age = p.Next
	out.Vols = withVol(out.Vols, impl.Vol{Name: to, Age: p.Next + 1, Size: p.Vols[at].Size, Fixed: fixed})
	return unlessFull(p, out, ok && ok2)
}

// afterWrite says what Write returns, in the words of chapter 11.
func afterWrite(p impl.Pool, name string, blk, n int) (impl.Pool, int) {
	at := volNamed(p, name)
	switch {
	case !validPool(p) || !validName(name):
		return p, impl.CoForm
	case at < 0:
		return p, impl.CoNone
	case p.Vols[at].Fixed:
		return p, impl.CoFixed
	case !within(blk, 0, p.Vols[at].Size-1) || !within(n, 0, 65535):
		return p, impl.CoRange
	}
	out := deepPool(p)
	cells, i, ok := afterTake(p.Cells, n)
	tree, ok2 := treeAfterPut(p.T, refTo(blk, p.Vols[at].Age, i, cells[i].Gen))
	if old, is := keyAt(liveTreeKeys(p.T), blk, p.Vols[at].Age); is && old.Kind == impl.KData {
		cells = afterFree(cells, old.Cell)
	}
	out.T, out.Cells = tree, cells
	return unlessFull(p, out, ok && ok2)
}

// expectDone expects the result of an operation on a valid pool.
func expectDone(t *testing.T, what string, got impl.Pool, code int, want impl.Pool) {
	t.Helper()
	if code != impl.CoGood || !samePool(got, want) {
		t.Errorf("%s: %v, %d, want %v, 0", what, got, code, want)
	}
	expectPoolOk(t, what, got, true)
}

// expectRefused expects the result of an operation that has no effect on p.
func expectRefused(t *testing.T, what string, got impl.Pool, code int, p impl.Pool, want int) {
	t.Helper()
	if code != want || !samePool(got, p) {
		t.Errorf("%s: %v, %d, want %v, %d", what, got, code, p, want)
	}
}

func expectNoCreate(t *testing.T, what string, p impl.Pool, name string, size, want int) {
	t.Helper()
	got, code := impl.Create(p, name, size)
	expectRefused(t, what, got, code, p, want)
}

func expectNoSnap(t *testing.T, what string, p impl.Pool, name, to string, want int) {
	t.Helper()
	for _, fixed := range []bool{false, true} {
		got, code := impl.Snap(p, name, to, fixed)
		expectRefused(t, what, got, code, p, want)
	}
}

func expectNoWrite(t *testing.T, what string, p impl.Pool, name string, blk, n, want int) {
	t.Helper()
	got, code := impl.Write(p, name, blk, n)
	expectRefused(t, what, got, code, p, want)
}

// created, snapped and written perform an operation that must not fail.
func created(t *testing.T, p impl.Pool, name string, size int) impl.Pool {
	t.Helper()
	out, code := impl.Create(p, name, size)
	if code != impl.CoGood {
		t.Fatalf("Create(%v, %q, %d) fails with %d", p, name, size, code)
	}
	return out
}

func snapped(t *testing.T, p impl.Pool, name, to string, fixed bool) impl.Pool {
	t.Helper()
	out, code := impl.Snap(p, name, to, fixed)
	if code != impl.CoGood {
		t.Fatalf("Snap(%v, %q, %q, %v) fails with %d", p, name, to, fixed, code)
	}
	return out
}

func written(t *testing.T, p impl.Pool, name string, blk, n int) impl.Pool {
	t.Helper()
	out, code := impl.Write(p, name, blk, n)
	if code != impl.CoGood {
		t.Fatalf("Write(%v, %q, %d, %d) fails with %d", p, name, blk, n, code)
	}
	return out
}

// contents returns all blocks of all volumes by name.
func contents(p impl.Pool) map[string][]int {
	out := map[string][]int{}
	for i, v := range p.Vols {
		for blk := range v.Size {
			out[v.Name] = append(out[v.Name], impl.BlockOf(p, i, blk))
		}
	}
	return out
}

func expectContents(t *testing.T, what string, p impl.Pool, want map[string][]int) {
	t.Helper()
	if got := contents(p); fmt.Sprint(got) != fmt.Sprint(want) {
		t.Errorf("%s: the blocks are %v, want %v", what, got, want)
	}
}

func TestCodeConstants(t *testing.T) {
	got := []int{impl.CoGood, impl.CoForm, impl.CoNone, impl.CoThere, impl.CoRange, impl.CoFixed, impl.CoFull}
	if !slices.Equal(got, []int{0, 1, 2, 3, 4, 5, 6}) {
		t.Errorf("the codes are %v", got)
	}
}

func TestCreate(t *testing.T) {
	for size := 1; size <= 12; size++ {
		p, code := impl.Create(impl.PoolNew(), "vol1", size)
		want := impl.PoolNew()
		want.Ages, want.Vols, want.Next = agesOf(1, 0), []impl.Vol{volAs("vol1", 1, size)}, 2
		expectDone(t, "the first volume", p, code, want)
		expectContents(t, "the first volume", p, map[string][]int{"vol1": make([]int, size)})
	}
	for _, c := range []struct {
		name string
		at   int
	}{{"0", 0}, {"9", 0}, {"a0", 1}, {"aa", 1}, {"b", 1}, {"b0", 1}, {"b2", 2}, {"bz", 2}, {"c1", 3}, {"cc", 3}, {"d0", 4}, {"zzzzzz", 4}} {
		want := richPool()
		want.Ages, want.Next = append(want.Ages, impl.Age{Id: 12}), 13
		want.Vols = slices.Insert(want.Vols, c.at, volAs(c.name, 12, 5))
		p, code := impl.Create(richPool(), c.name, 5)
		expectDone(t, "a volume among others", p, code, want)
		all := contents(richPool())
		all[c.name] = make([]int, 5)
		expectContents(t, "a volume among others", p, all)
	}
}

// TestCreateInAnyOrder creates 6 volumes in every order.
func TestCreateInAnyOrder(t *testing.T) {
	names := []string{"7", "a", "a7", "ab", "b", "zz"}
	var extend func(p impl.Pool, left []string)
	extend = func(p impl.Pool, left []string) {
		for i, name := range left {
			out := created(t, p, name, 1+len(left))
			expectPoolOk(t, "a new volume", out, true)
			extend(out, slices.Delete(slices.Clone(left), i, i+1))
		}
		if len(left) == 0 {
			for i, v := range p.Vols {
				if v.Name != names[i] || v.Size != 8-v.Age || v.Fixed {
					t.Errorf("the volumes are %v", p.Vols)
				}
			}
			expectNoCreate(t, "a seventh volume", p, "c", 1, impl.CoFull)
		}
	}
	extend(impl.PoolNew(), names)
}

func TestCreateRefuses(t *testing.T) {
	for _, name := range badNames {
		expectNoCreate(t, "no name", impl.PoolNew(), name, 4, impl.CoForm)
		expectNoCreate(t, "no name, no size", richPool(), name, 0, impl.CoForm)
		expectNoCreate(t, "no name, a full pool", volsPool(6), name, 4, impl.CoForm)
	}
	for _, name := range []string{"a", "b1", "c", "d"} {
		expectNoCreate(t, "an existing volume", richPool(), name, 4, impl.CoThere)
		expectNoCreate(t, "an existing volume, no size", richPool(), name, 13, impl.CoThere)
	}
	for i := range 6 {
		expectNoCreate(t, "an existing volume of a full pool", volsPool(6), string(rune('b'+2*i)), 4, impl.CoThere)
	}
	for _, size := range append(farInts, 0, 13, 14, 255) {
		expectNoCreate(t, "no size", impl.PoolNew(), "a", size, impl.CoRange)
		expectNoCreate(t, "no size", richPool(), "b", size, impl.CoRange)
		expectNoCreate(t, "no size, 6 volumes", volsPool(6), "a", size, impl.CoRange)
		expectNoCreate(t, "no size, no Id", lastPool(61), "a", size, impl.CoRange)
	}
	for _, size := range []int{1, 5, 12} {
		expectNoCreate(t, "6 volumes", volsPool(6), "a", size, impl.CoFull)
		expectNoCreate(t, "6 volumes, before all", volsPool(6), "0", size, impl.CoFull)
		expectNoCreate(t, "16 versions", agesPool(16), "a", size, impl.CoFull)
		expectNoCreate(t, "no Id", lastPool(61), "a", size, impl.CoFull)
	}
}

func TestCreateAtTheLimits(t *testing.T) {
	for what, p := range soundPools(t) {
		for _, size := range []int{0, 1, 12, 13} {
			for _, name := range []string{"0", "a", "b", "c5", "v", "zz", "zz1"} {
				want, is := afterCreate(p, name, size)
				got, code := impl.Create(p, name, size)
				if code != is || !samePool(got, want) {
					t.Errorf("%s: Create(%v, %q, %d) = %v, %d, want %v, %d", what, p, name, size, got, code, want, is)
				}
			}
		}
	}
	p := created(t, volsPool(5), "a", 12)
	if len(p.Vols) != 6 || p.Next != 7 {
		t.Errorf("the sixth volume: %v", p)
	}
	p = created(t, agesPool(15), "a", 12)
	if len(p.Ages) != 16 {
		t.Errorf("the 16th version: %v", p)
	}
	p = created(t, lastPool(60), "a", 12)
	if p.Next != 61 || p.Vols[0].Age != 60 {
		t.Errorf("the last Id: %v", p)
	}
}

func TestSnap(t *testing.T) {
	for i, v := range richPool().Vols {
		for _, fixed := range []bool{false, true} {
			for _, to := range []string{"0", "aa", "b", "bb", "cc", "z"} {
				want := richPool()
				want.Ages, want.Next = append(want.Ages, agesOf(12, v.Age, 13, v.Age)...), 14
				want.Vols[i].Age = 12
				want.Vols = withVol(want.Vols, impl.Vol{Name: to, Age: 13, Size: v.Size, Fixed: fixed})
				p, code := impl.Snap(richPool(), v.Name, to, fixed)
				expectDone(t, "a snapshot", p, code, want)
				all := contents(richPool())
				all[to] = all[v.Name]
				expectContents(t, "a snapshot", p, all)
			}
		}
	}
}

// TestSnapKeepsWhetherAVolumeIsFixed takes snapshots of read-only volumes: the
// snapshot alone decides whether it may be written.
func TestSnapKeepsWhetherAVolumeIsFixed(t *testing.T) {
	for _, was := range []bool{false, true} {
		for _, fixed := range []bool{false, true} {
			p := volsPool(1)
			p.Vols[0].Fixed = was
			p = snapped(t, p, "b", "c", fixed)
			if p.Vols[0].Fixed != was || p.Vols[1].Fixed != fixed {
				t.Errorf("the volumes are %v", p.Vols)
			}
			for i, name := range []string{"b", "c"} {
				want := impl.CoGood
				if p.Vols[i].Fixed {
					want = impl.CoFixed
				}
				if _, code := impl.Write(p, name, 0, 1); code != want {
					t.Errorf("a write of %q gives %d, want %d", name, code, want)
				}
			}
		}
	}
}

func TestSnapRefuses(t *testing.T) {
	for _, bad := range badNames {
		expectNoSnap(t, "no name", richPool(), bad, "e", impl.CoForm)
		expectNoSnap(t, "no name of the snapshot", richPool(), "a", bad, impl.CoForm)
		expectNoSnap(t, "no name of the snapshot, no volume", richPool(), "e", bad, impl.CoForm)
		expectNoSnap(t, "no names", richPool(), bad, bad, impl.CoForm)
		expectNoSnap(t, "no name, an existing snapshot", richPool(), bad, "a", impl.CoForm)
		expectNoSnap(t, "no name of the snapshot, a full pool", volsPool(6), "b", bad, impl.CoForm)
	}
	for _, name := range []string{"0", "b", "b10", "zzzzzz"} {
		expectNoSnap(t, "no volume", richPool(), name, "e", impl.CoNone)
		expectNoSnap(t, "no volume, an existing snapshot", richPool(), name, "a", impl.CoNone)
		expectNoSnap(t, "no volume, its own name", richPool(), name, name, impl.CoNone)
		expectNoSnap(t, "no volumes", impl.PoolNew(), name, "e", impl.CoNone)
		expectNoSnap(t, "no volume, no Id", lastPool(61), name, "e", impl.CoNone)
	}
	for _, name := range []string{"a", "b1", "c", "d"} {
		for _, to := range []string{"a", "b1", "c", "d"} {
			expectNoSnap(t, "an existing snapshot", richPool(), name, to, impl.CoThere)
		}
	}
	expectNoSnap(t, "an existing snapshot, 6 volumes", volsPool(6), "b", "d", impl.CoThere)
	expectNoSnap(t, "an existing snapshot, no Id", lastPool(61), "z", "z", impl.CoThere)
	expectNoSnap(t, "6 volumes", volsPool(6), "b", "a", impl.CoFull)
	expectNoSnap(t, "16 versions", agesPool(16), "v", "a", impl.CoFull)
	expectNoSnap(t, "15 versions", agesPool(15), "v", "a", impl.CoFull)
	expectNoSnap(t, "no Id", lastPool(61), "z", "a", impl.CoFull)
	expectNoSnap(t, "a single Id", lastPool(60), "z", "a", impl.CoFull)
}

func TestSnapAtTheLimits(t *testing.T) {
	for what, p := range soundPools(t) {
		names := []string{"a", "b", "v", "z", "zz"}
		for _, name := range names {
			for _, to := range append(names, "0", "m") {
				want, is := afterSnap(p, name, to, true)
				got, code := impl.Snap(p, name, to, true)
				if code != is || !samePool(got, want) {
					t.Errorf("%s: Snap(%v, %q, %q, true) = %v, %d, want %v, %d", what, p, name, to, got, code, want, is)
				}
			}
		}
	}
	p := snapped(t, volsPool(5), "d", "a", false)
	if len(p.Vols) != 6 || p.Next != 8 {
		t.Errorf("the sixth volume: %v", p)
	}
	p = snapped(t, agesPool(14), "v", "a", false)
	if len(p.Ages) != 16 {
		t.Errorf("the 15th and 16th version: %v", p)
	}
	p = snapped(t, lastPool(59), "z", "a", false)
	if p.Next != 61 || p.Vols[0].Age != 60 || p.Vols[1].Age != 59 {
		t.Errorf("the last Ids: %v", p)
	}
}

// TestWriteToEachBlock writes every block of every volume, over each kind of
// mapping.
func TestWriteToEachBlock(t *testing.T) {
	for i, v := range richPool().Vols {
		for blk := range v.Size {
			for _, n := range []int{0, 1, 4321, 65535} {
				old := richPool()
				if v.Fixed {
					expectNoWrite(t, "a read-only volume", old, v.Name, blk, n, impl.CoFixed)
					continue
				}
				want, _ := afterWrite(old, v.Name, blk, n)
				p, code := impl.Write(old, v.Name, blk, n)
				expectDone(t, "a write", p, code, want)
				expectBlock(t, "a write", p, i, blk, n)
				all := contents(old)
				all[v.Name][blk] = n
				expectContents(t, "a write", p, all)
			}
		}
	}
}

// TestWriteTakesAndFreesCells covers a block without a mapping, one that is
// inherited, one of kind KGone and one that is overwritten.
func TestWriteTakesAndFreesCells(t *testing.T) {
	old := richPool()
	taken := withCell(old.Cells, 1, cellAs(41, 500))
	for _, c := range []struct {
		what  string
		name  string
		blk   int
		cells []impl.Cell
	}{
		{"no mapping", "c", 9, taken},
		{"inherited", "c", 0, taken},
		{"KGone", "a", 0, taken},
		{"KGone that is inherited", "a", 3, taken},
		{"overwritten", "a", 1, withCell(taken, 7, impl.Cell{Gen: 0})},
		{"overwritten in the other node", "c", 2, withCell(taken, 23, impl.Cell{Gen: 944})},
	} {
		p := written(t, old, c.name, c.blk, 500)
		expectCells(t, c.what, p.Cells, c.cells)
		age := old.Vols[volNamed(old, c.name)].Age
		expectInTree(t, c.what, p.T, refTo(c.blk, age, 1, 41))
		expectKeys(t, c.what, impl.TreeKeys(p.T), putInto(liveTreeKeys(old.T), refTo(c.blk, age, 1, 41)))
	}
}

// TestWriteOverItself writes one block again and again: the two cells take
// turns, and each has the next generation when it is taken.
func TestWriteOverItself(t *testing.T) {
	p := created(t, impl.PoolNew(), "a", 3)
	for n := range 2100 {
		p = written(t, p, "a", 2, n)
		cells := make([]impl.Cell, 24)
		cells[n%2] = cellAs(n/2%1000, n)
		if n > 0 {
			cells[1-n%2].Gen = (n + 1) / 2 % 1000
		}
		expectCells(t, "written again", p.Cells, cells)
		expectBlock(t, "written again", p, 0, 2, n)
		expectPoolOk(t, "written again", p, true)
	}
}

func TestWriteEachWord(t *testing.T) {
	p := created(t, impl.PoolNew(), "a", 1)
	for n := 0; n < 65536; n += 13 {
		expectBlock(t, "a word", written(t, p, "a", 0, n), 0, 0, n)
	}
	expectBlock(t, "the last word", written(t, p, "a", 0, 65535), 0, 0, 65535)
}

// TestWritesOfSnapshots checks that a later write to a volume or to a snapshot
// of it does not change the other one.
func TestWritesOfSnapshots(t *testing.T) {
	p := created(t, impl.PoolNew(), "a", 3)
	p = written(t, written(t, p, "a", 0, 10), "a", 1, 11)
	p = snapped(t, p, "a", "b", false)
	expectContents(t, "a snapshot", p, map[string][]int{"a": {10, 11, 0}, "b": {10, 11, 0}})
	p = written(t, p, "a", 0, 20)
	p = written(t, p, "b", 1, 31)
	p = written(t, p, "b", 2, 32)
	expectContents(t, "writes to both", p, map[string][]int{"a": {20, 11, 0}, "b": {10, 31, 32}})
	p = snapped(t, p, "b", "c", true)
	p = snapped(t, p, "a", "0", false)
	p = written(t, p, "b", 2, 0)
	p = written(t, p, "0", 0, 40)
	expectContents(t, "two more snapshots", p, map[string][]int{"0": {40, 11, 0}, "a": {20, 11, 0}, "b": {10, 31, 0}, "c": {10, 31, 32}})
	expectNoWrite(t, "a read-only snapshot", p, "c", 0, 1, impl.CoFixed)
	p = snapped(t, p, "c", "d", false)
	p = written(t, p, "d", 0, 50)
	expectContents(t, "the snapshot of a snapshot", p, map[string][]int{"0": {40, 11, 0}, "a": {20, 11, 0}, "b": {10, 31, 0}, "c": {10, 31, 32}, "d": {50, 31, 32}})
	expectPoolOk(t, "snapshots", p, true)
}

func TestWriteRefuses(t *testing.T) {
	for _, name := range badNames {
		expectNoWrite(t, "no name", richPool(), name, 0, 1, impl.CoForm)
		expectNoWrite(t, "no name, no block", richPool(), name, -1, -1, impl.CoForm)
	}
	for _, name := range []string{"0", "b", "b10", "zzzzzz"} {
		expectNoWrite(t, "no volume", richPool(), name, 0, 1, impl.CoNone)
		expectNoWrite(t, "no volume, no block", richPool(), name, 99, 1, impl.CoNone)
		expectNoWrite(t, "no volume, no word", richPool(), name, 0, -1, impl.CoNone)
		expectNoWrite(t, "no volumes", impl.PoolNew(), name, 0, 1, impl.CoNone)
		expectNoWrite(t, "no volume, no cell", cellsPool(t, 24), "c", 0, 1, impl.CoNone)
	}
	for _, blk := range append(farInts, 0, 3, 4, 12) {
		expectNoWrite(t, "a read-only volume", richPool(), "b1", blk, 1, impl.CoFixed)
		expectNoWrite(t, "a read-only volume, no word", richPool(), "b1", blk, 65536, impl.CoFixed)
	}
	for i, name := range []string{"a", "b1", "c", "d"} {
		p := richPool()
		p.Vols[i].Fixed = false
		for _, blk := range append(farInts, p.Vols[i].Size, p.Vols[i].Size+1, 15, 16) {
			expectNoWrite(t, "no block", p, name, blk, 1, impl.CoRange)
			expectNoWrite(t, "no block, no word", p, name, blk, -1, impl.CoRange)
		}
		for _, n := range farInts {
			expectNoWrite(t, "no word", p, name, 0, n, impl.CoRange)
			expectNoWrite(t, "no word", p, name, p.Vols[i].Size-1, n, impl.CoRange)
		}
	}
	full := cellsPool(t, 24)
	full.Vols[1].Fixed = true
	expectNoWrite(t, "no cell, a read-only volume", full, "b", 0, 1, impl.CoFixed)
	expectNoWrite(t, "no cell, no block", full, "a", 12, 1, impl.CoRange)
	expectNoWrite(t, "no cell, no word", full, "a", 0, 65536, impl.CoRange)
}

func TestWriteWithoutACell(t *testing.T) {
	full := cellsPool(t, 24)
	for _, name := range []string{"a", "b"} {
		for blk := range 12 {
			expectNoWrite(t, "no cell for a block that is overwritten", full, name, blk, 1, impl.CoFull)
		}
	}
	p := cellsPool(t, 22)
	for _, blk := range []int{3, 11} {
		expectPoolOk(t, "the last cell but one", written(t, p, "a", blk, 1), true)
	}
	p = written(t, p, "a", 11, 1)
	expectNoWrite(t, "no cell for a block without one", written(t, p, "b", 11, 1), "b", 11, 1, impl.CoFull)
	// With one cell left, all blocks but one may be overwritten any number of times.
	for n := range 60 {
		p = written(t, p, "b", n%11, n)
		expectPoolOk(t, "the last cell", p, true)
	}
}

func TestWriteWithoutRoomForAKey(t *testing.T) {
	full := keysPool(t, 60)
	for i, v := range full.Vols {
		for blk := range 12 {
			want, _ := afterWrite(full, v.Name, blk, 9)
			p, code := impl.Write(full, v.Name, blk, 9)
			expectDone(t, "a write over KGone", p, code, want)
			expectBlock(t, "a write over KGone", p, i, blk, 9)
		}
	}
	full = created(t, full, "a", 12)
	for blk := range 12 {
		expectNoWrite(t, "60 keys", full, "a", blk, 9, impl.CoFull)
	}
	p := created(t, keysPool(t, 59), "a", 12)
	p = written(t, p, "a", 4, 9)
	expectPoolOk(t, "the 60th key", p, true)
	expectNoWrite(t, "60 keys", p, "a", 5, 9, impl.CoFull)
	p = written(t, p, "a", 4, 10)
	expectContents(t, "the 60th key overwritten", p, map[string][]int{"a": {0, 0, 0, 0, 10, 0, 0, 0, 0, 0, 0, 0},
		"b": make([]int, 12), "d": make([]int, 12), "f": make([]int, 12), "h": make([]int, 12), "j": make([]int, 12)})
}

func TestWriteAtTheLimits(t *testing.T) {
	for what, p := range soundPools(t) {
		for _, name := range []string{"a", "b", "b1", "d", "v", "z", "zz"} {
			for blk := -1; blk <= 12; blk++ {
				want, is := afterWrite(p, name, blk, 77)
				got, code := impl.Write(p, name, blk, 77)
				if code != is || !samePool(got, want) {
					t.Errorf("%s: Write(%v, %q, %d, 77) = %v, %d, want %v, %d", what, p, name, blk, got, code, want, is)
				}
			}
		}
	}
}

func TestOperationsRefuseInvalidPools(t *testing.T) {
	pools := map[string]impl.Pool{"the zero Pool": {}, "7 volumes": volsPool(7), "17 versions": agesPool(17)}
	for what, f := range spoilers() {
		pools[what] = spoiled(f)
	}
	for what, p := range pools {
		for _, name := range []string{"a", "b1", "e", "zz", "", "A"} {
			for _, n := range []int{-1, 0, 1, 12, 13} {
				expectNoCreate(t, what, p, name, n, impl.CoForm)
				expectNoWrite(t, what, p, name, n, 1, impl.CoForm)
			}
			for _, to := range []string{"a", "e", "f", ""} {
				expectNoSnap(t, what, p, name, to, impl.CoForm)
			}
		}
	}
}

// change is an operation, with its result in the words of chapter 11 and with
// what it does to the blocks of all volumes if it succeeds.
type change struct {
	what   string
	call   func(p impl.Pool) (impl.Pool, int)
	want   func(p impl.Pool) (impl.Pool, int)
	effect func(all map[string][]int)
}

func createChange(name string, size int) change {
	return change{fmt.Sprintf("Create %q %d", name, size),
		func(p impl.Pool) (impl.Pool, int) { return impl.Create(p, name, size) },
		func(p impl.Pool) (impl.Pool, int) { return afterCreate(p, name, size) },
		func(all map[string][]int) { all[name] = make([]int, size) }}
}

func snapChange(name, to string, fixed bool) change {
	return change{fmt.Sprintf("Snap %q %q %v", name, to, fixed),
		func(p impl.Pool) (impl.Pool, int) { return impl.Snap(p, name, to, fixed) },
		func(p impl.Pool) (impl.Pool, int) { return afterSnap(p, name, to, fixed) },
		func(all map[string][]int) { all[to] = slices.Clone(all[name]) }}
}

func writeChange(name string, blk, n int) change {
	return change{fmt.Sprintf("Write %q %d %d", name, blk, n),
		func(p impl.Pool) (impl.Pool, int) { return impl.Write(p, name, blk, n) },
		func(p impl.Pool) (impl.Pool, int) { return afterWrite(p, name, blk, n) },
		func(all map[string][]int) { all[name][blk] = n }}
}

// TestWalksThroughPools performs operations of all kinds, valid and invalid,
// starting with several pools, and compares each result with the chapter's
// wording and with volumes that share nothing.
func TestWalksThroughPools(t *testing.T) {
	seed := uint32(77)
	next := func(limit int) int {
		seed = seed*1664525 + 1013904223
		return int(seed>>8) % limit
	}
	names := []string{"a", "b", "b1", "c", "d", "e", "f", "z", "0", "zz"}
	name := func() string {
		if next(30) == 0 {
			return "Bad"
		}
		return names[next(len(names))]
	}
	sound := soundPools(t)
	starts := sortedNames(sound)
	codes := map[string]int{}
	for walk := range 8 * len(starts) {
		p := sound[starts[walk%len(starts)]]
		all := contents(p)
		for range 60 {
			c := writeChange(name(), next(14)-1, next(65600)-20)
			switch next(10) {
			case 0:
				c = createChange(name(), next(14))
			case 1, 2:
				c = snapChange(name(), name(), next(2) == 1)
			}
			want, is := c.want(p)
			got, code := c.call(p)
			if code != is || !samePool(got, want) {
				t.Fatalf("%s of %v: %v, %d, want %v, %d", c.what, p, got, code, want, is)
			}
			expectPoolOk(t, "the walk", got, true)
			if code == impl.CoGood {
				c.effect(all)
			}
			expectContents(t, c.what, got, all)
			codes[fmt.Sprint(strings.Fields(c.what)[0], " ", code)]++
			p = got
		}
	}
	for _, what := range []string{"Create 0", "Create 1", "Create 3", "Create 4", "Create 6", "Snap 0", "Snap 1", "Snap 2", "Snap 3", "Snap 6", "Write 0", "Write 1", "Write 2", "Write 4", "Write 5", "Write 6"} {
		if codes[what] < 10 {
			t.Errorf("the walk is too short: %v", codes)
		}
	}
}

// someChanges returns operations that succeed and operations that fail, for some
// pool of somePools each.
func someChanges() []change {
	return []change{
		createChange("0", 4), createChange("a", 4), createChange("e", 0), createChange("e", 12), createChange("", 4), createChange("zz", 1),
		snapChange("a", "e", true), snapChange("a", "b", false), snapChange("d", "0", false), snapChange("a", "a", false), snapChange("x", "e", false), snapChange("a", "", false), snapChange("v", "w", false), snapChange("z", "zz", false),
		writeChange("a", 0, 5), writeChange("a", 1, 5), writeChange("a", 1, -1), writeChange("a", 12, 5), writeChange("b1", 0, 5), writeChange("c", 2, 5), writeChange("d", 0, 5), writeChange("v", 11, 5), writeChange("x", 0, 5), writeChange("", 0, 5),
	}
}

func TestPoolsShareNoMemory(t *testing.T) {
	for _, old := range somePools(t) {
		for _, c := range someChanges() {
			p := roomyPool(old)
			out, _ := c.call(p)
			want := deepPool(out)
			expectWholePool(t, c.what, p, old)
			other, _ := c.call(p)
			scratchPool(other)
			expectWholePool(t, c.what+", the argument after a change of another result", p, old)
			expectPool(t, c.what+", the result after a change of another result", out, want)
			scratchPool(p)
			expectPool(t, c.what+", the result after a change of the argument", out, want)
		}
	}
}

// TestPartsOfAPoolShareNoMemory changes one part of a result after the other.
func TestPartsOfAPoolShareNoMemory(t *testing.T) {
	for _, old := range somePools(t) {
		for _, c := range someChanges() {
			out, _ := c.call(old)
			want := deepPool(out)
			for i := range out.T.Nodes {
				scratchNode(out.T.Nodes[i])
				out.T.Nodes[i], want.T.Nodes[i] = impl.Node{}, impl.Node{}
				expectPool(t, c.what+", after a change of a node", out, want)
			}
			fill(out.Vols, volAs("?", -7, -7))
			fill(out.Ages, impl.Age{Id: -7, From: -7})
			fill(want.Vols, volAs("?", -7, -7))
			fill(want.Ages, impl.Age{Id: -7, From: -7})
			expectPool(t, c.what+", after a change of the volumes and versions", out, want)
		}
	}
}

func TestOperationsStopAtTheLength(t *testing.T) {
	p := volsPool(3)
	p.Vols = p.Vols[:2]
	expectNoWrite(t, "a spare volume", p, "f", 0, 1, impl.CoNone)
	expectNoSnap(t, "a spare volume", p, "f", "g", impl.CoNone)
	out, code := impl.Create(p, "f", 5)
	want, _ := afterCreate(p, "f", 5)
	expectDone(t, "the name of a spare volume", out, code, want)
	if p.Vols[:3][2] != volAs("f", 3, 3) {
		t.Errorf("the spare volume is now %v", p.Vols[:3][2])
	}
	expectNoCreate(t, "the greatest size", p, "g", math.MaxInt, impl.CoRange)
}
