package tests

import (
	"fmt"
	"math"
	"slices"
	"strings"
	"testing"

	"loop.example/g00467/impl"
)

// badNames are strings that are not names.
var badNames = []string{"", "A", "aB", "abcdefg", "a b", "a-", "a\n", "\x00", "ä", "\xff", strings.Repeat("a", 65537)}

// withVol returns the volumes of l and v in ascending order of their names.
func withVol(l []impl.Vol, v impl.Vol) []impl.Vol {
	out := append(slices.Clone(l), v)
	slices.SortFunc(out, func(a, b impl.Vol) int { return strings.Compare(a.Name, b.Name) })
	return out
}

// unlessFull returns the new pool out, or p and CoFull if out is not valid or
// something was exhausted.
func unlessFull(p, out impl.Pool, ok bool) (impl.Pool, int) {
	if !ok || !validPool(out) {
		return p, impl.CoFull
	}
	return out, impl.CoGood
}

// afterCreate says what Create returns, in the words of chapter 11.
func afterCreate(p impl.Pool, name string, size int) (impl.Pool, int) {
	switch {
	case !validPool(p) || !validName(name):
		return p, impl.CoForm
	case volNamed(p, name) >= 0:
		return p, impl.CoThere
	case !within(size, 1, 12):
		return p, impl.CoRange
	}
	out := deepPool(p)
	ages, ok := afterNew(p.Ages, p.Next, 0)
	out.Ages, out.Next = ages, p.Next+1
	out.Vols = withVol(p.Vols, volAs(name, p.Next, size))
	return unlessFull(p, out, ok)
}

// afterSnap says what Snap returns, in the words of chapter 11.
func afterSnap(p impl.Pool, name, to string, fixed bool) (impl.Pool, int) {
	at := volNamed(p, name)
	switch {
	case !validPool(p) || !validName(name) || !validName(to):
		return p, impl.CoForm
	case at < 0:
		return p, impl.CoNone
	case volNamed(p, to) >= 0:
		return p, impl.CoThere
	}
	out := deepPool(p)
	first, ok := afterNew(p.Ages, p.Next, p.Vols[at].Age)
	both, ok2 := afterNew(first, p.Next+1, p.Vols[at].Age)
	out.Ages, out.Next = both, p.Next+2
	out.Vols[at].Age = p.Next
	out.Vols = withVol(out.Vols, impl.Vol{Name: to, Age: p.Next + 1, Size: p.Vols[at].Size, Fixed: fixed})
	return unlessFull(p, out, ok && ok2)
}

// afterWrite says what Write returns, in the words of chapter 11.
func afterWrite(p impl.Pool, name string, blk, n int) (impl.Pool, int) {
	at := volNamed(p, name)
	switch {
	case !validPool(p) || !validName(name):
		return p, impl.CoForm
	case at < 0:
		return p, impl.CoNone
	case p.Vols[at].Fixed:
		return p, impl.CoFixed
	case !within(blk, 0, p.Vols[at].Size-1) || !within(n, 0, 65535):
		return p, impl.CoRange
	}
	out := deepPool(p)
	cells, i, ok := afterTake(p.Cells, n)
	tree, ok2 := treeAfterPut(p.T, refTo(blk, p.Vols[at].Age, i, cells[i].Gen))
	if old, is := keyAt(liveTreeKeys(p.T), blk, p.Vols[at].Age); is && old.Kind == impl.KData {
		cells = afterFree(cells, old.Cell)
	}
	out.T, out.Cells = tree, cells
	return unlessFull(p, out, ok && ok2)
}

// afterKill says what Kill returns, in the words of chapter 11.
func afterKill(p impl.Pool, name string) (impl.Pool, int) {
	at := volNamed(p, name)
	switch {
	case !validPool(p) || !validName(name):
		return p, impl.CoForm
	case at < 0:
		return p, impl.CoNone
	}
	out := deepPool(p)
	out.Vols = slices.Concat(p.Vols[:at], p.Vols[at+1:])
	return unlessFull(p, out, true)
}

// readIn says what Read returns, in the words of chapter 11.
func readIn(p impl.Pool, name string, blk int) (int, int) {
	at := volNamed(p, name)
	switch {
	case !validPool(p) || !validName(name):
		return 0, impl.CoForm
	case at < 0:
		return 0, impl.CoNone
	case !within(blk, 0, p.Vols[at].Size-1):
		return 0, impl.CoRange
	}
	return blockIn(p, at, blk), impl.CoGood
}

// above returns the mapping that the parent of the version id has or inherits.
func above(p impl.Pool, blk, id int) impl.Key {
	k, _ := inherited(liveTreeKeys(p.T), p.Ages, blk, p.Ages[firstWith(p.Ages, id)].From)
	return k
}

// afterDiscard says what Discard returns, in the words of chapter 11.
func afterDiscard(p impl.Pool, name string, blk int) (impl.Pool, int) {
	at := volNamed(p, name)
	switch {
	case !validPool(p) || !validName(name):
		return p, impl.CoForm
	case at < 0:
		return p, impl.CoNone
	case p.Vols[at].Fixed:
		return p, impl.CoFixed
	case !within(blk, 0, p.Vols[at].Size-1):
		return p, impl.CoRange
	}
	id := p.Vols[at].Age
	old, own := keyAt(liveTreeKeys(p.T), blk, id)
	k := noneKey(blk, id)
	if above(p, blk, id).Kind == impl.KData {
		k = goneKey(blk, id)
	} else if !own {
		return p, impl.CoGood
	}
	out := deepPool(p)
	tree, ok := treeAfterPut(p.T, k)
	out.T = tree
	if old.Kind == impl.KData {
		out.Cells = afterFree(p.Cells, old.Cell)
	}
	return unlessFull(p, out, ok)
}

// afterResize says what Resize returns, in the words of chapter 11.
func afterResize(p impl.Pool, name string, size int) (impl.Pool, int) {
	at := volNamed(p, name)
	switch {
	case !validPool(p) || !validName(name):
		return p, impl.CoForm
	case at < 0:
		return p, impl.CoNone
	case p.Vols[at].Fixed:
		return p, impl.CoFixed
	case !within(size, 1, 12):
		return p, impl.CoRange
	}
	out, code := deepPool(p), impl.CoGood
	for n := p.Vols[at].Size; n > size; n-- {
		if out, code = afterDiscard(out, name, n-1); code != impl.CoGood {
			return p, code
		}
	}
	out = deepPool(out)
	out.Vols[at].Size = size
	return out, impl.CoGood
}

// expectDone expects the result of an operation on a valid pool.
func expectDone(t *testing.T, what string, got impl.Pool, code int, want impl.Pool) {
	t.Helper()
	if code != impl.CoGood || !samePool(got, want) {
		t.Errorf("%s: %v, %d, want %v, 0", what, got, code, want)
	}
	expectPoolOk(t, what, got, true)
}

// expectRefused expects the result of an operation that has no effect on p.
func expectRefused(t *testing.T, what string, got impl.Pool, code int, p impl.Pool, want int) {
	t.Helper()
	if code != want || !samePool(got, p) {
		t.Errorf("%s: %v, %d, want %v, %d", what, got, code, p, want)
	}
}

func expectNoCreate(t *testing.T, what string, p impl.Pool, name string, size, want int) {
	t.Helper()
	got, code := impl.Create(p, name, size)
	expectRefused(t, what, got, code, p, want)
}

func expectNoSnap(t *testing.T, what string, p impl.Pool, name, to string, want int) {
	t.Helper()
	for _, fixed := range []bool{false, true} {
		got, code := impl.Snap(p, name, to, fixed)
		expectRefused(t, what, got, code, p, want)
	}
}

func expectNoWrite(t *testing.T, what string, p impl.Pool, name string, blk, n, want int) {
	t.Helper()
	got, code := impl.Write(p, name, blk, n)
	expectRefused(t, what, got, code, p, want)
}

func expectNoKill(t *testing.T, what string, p impl.Pool, name string, want int) {
	t.Helper()
	got, code := impl.Kill(p, name)
	expectRefused(t, what, got, code, p, want)
}

func expectNoDiscard(t *testing.T, what string, p impl.Pool, name string, blk, want int) {
	t.Helper()
	got, code := impl.Discard(p, name, blk)
	expectRefused(t, what, got, code, p, want)
}

func expectNoResize(t *testing.T, what string, p impl.Pool, name string, size, want int) {
	t.Helper()
	got, code := impl.Resize(p, name, size)
	expectRefused(t, what, got, code, p, want)
}

func expectRead(t *testing.T, what string, p impl.Pool, name string, blk, want int) {
	t.Helper()
	if got, code := impl.Read(p, name, blk); got != want || code != impl.CoGood {
		t.Errorf("%s: Read(%v, %q, %d) = %d, %d, want %d, 0", what, p, name, blk, got, code, want)
	}
}

func expectNoRead(t *testing.T, what string, p impl.Pool, name string, blk, want int) {
	t.Helper()
	if got, code := impl.Read(p, name, blk); got != 0 || code != want {
		t.Errorf("%s: Read(%v, %q, %d) = %d, %d, want 0, %d", what, p, name, blk, got, code, want)
	}
}

// created and the functions below perform an operation that must not fail.
func created(t *testing.T, p impl.Pool, name string, size int) impl.Pool {
	t.Helper()
	out, code := impl.Create(p, name, size)
	if code != impl.CoGood {
		t.Fatalf("Create(%v, %q, %d) fails with %d", p, name, size, code)
	}
	return out
}

func snapped(t *testing.T, p impl.Pool, name, to string, fixed bool) impl.Pool {
	t.Helper()
	out, code := impl.Snap(p, name, to, fixed)
	if code != impl.CoGood {
		t.Fatalf("Snap(%v, %q, %q, %v) fails with %d", p, name, to, fixed, code)
	}
	return out
}

func written(t *testing.T, p impl.Pool, name string, blk, n int) impl.Pool {
	t.Helper()
	out, code := impl.Write(p, name, blk, n)
	if code != impl.CoGood {
		t.Fatalf("Write(%v, %q, %d, %d) fails with %d", p, name, blk, n, code)
	}
	return out
}

func killed(t *testing.T, p impl.Pool, name string) impl.Pool {
	t.Helper()
	out, code := impl.Kill(p, name)
	if code != impl.CoGood {
		t.Fatalf("Kill(%v, %q) fails with %d", p, name, code)
	}
	return out
}

func discarded(t *testing.T, p impl.Pool, name string, blk int) impl.Pool {
	t.Helper()
	out, code := impl.Discard(p, name, blk)
	if code != impl.CoGood {
		t.Fatalf("Discard(%v, %q, %d) fails with %d", p, name, blk, code)
	}
	return out
}

func resized(t *testing.T, p impl.Pool, name string, size int) impl.Pool {
	t.Helper()
	out, code := impl.Resize(p, name, size)
	if code != impl.CoGood {
		t.Fatalf("Resize(%v, %q, %d) fails with %d", p, name, size, code)
	}
	return out
}

// contents returns all blocks of all volumes by name.
func contents(p impl.Pool) map[string][]int {
	out := map[string][]int{}
	for i, v := range p.Vols {
		for blk := range v.Size {
			out[v.Name] = append(out[v.Name], impl.BlockOf(p, i, blk))
		}
	}
	return out
}

func expectBlocks(t *testing.T, what string, p impl.Pool, want map[string][]int) {
	t.Helper()
	if got := contents(p); fmt.Sprint(got) != fmt.Sprint(want) {
		t.Errorf("%s: the blocks are %v, want %v", what, got, want)
	}
}

// expectContents expects these blocks, and that each of them is read.
func expectContents(t *testing.T, what string, p impl.Pool, want map[string][]int) {
	t.Helper()
	expectBlocks(t, what, p, want)
	for name, l := range want {
		for blk, n := range l {
			expectRead(t, what, p, name, blk, n)
		}
		expectNoRead(t, what, p, name, len(l), impl.CoRange)
	}
}

func TestCodeConstants(t *testing.T) {
	got := []int{impl.CoGood, impl.CoForm, impl.CoNone, impl.CoThere, impl.CoRange, impl.CoFixed, impl.CoFull}
	if !slices.Equal(got, []int{0, 1, 2, 3, 4, 5, 6}) {
		t.Errorf("the codes are %v", got)
	}
}

func TestCreate(t *testing.T) {
	for size := 1; size <= 12; size++ {
		p, code := impl.Create(impl.PoolNew(), "vol1", size)
		want := impl.PoolNew()
		want.Ages, want.Vols, want.Next = agesOf(1, 0), []impl.Vol{volAs("vol1", 1, size)}, 2
		expectDone(t, "the first volume", p, code, want)
		expectContents(t, "the first volume", p, map[string][]int{"vol1": make([]int, size)})
	}
	for _, c := range []struct {
		name string
		at   int
	}{{"0", 0}, {"9", 0}, {"a0", 1}, {"aa", 1}, {"b", 1}, {"b0", 1}, {"b2", 2}, {"bz", 2}, {"c1", 3}, {"cc", 3}, {"d0", 4}, {"zzzzzz", 4}} {
		want := richPool()
		want.Ages, want.Next = append(want.Ages, impl.Age{Id: 12}), 13
		want.Vols = slices.Insert(want.Vols, c.at, volAs(c.name, 12, 5))
		p, code := impl.Create(richPool(), c.name, 5)
		expectDone(t, "a volume among others", p, code, want)
		all := contents(richPool())
		all[c.name] = make([]int, 5)
		expectContents(t, "a volume among others", p, all)
	}
}

// TestCreateInAnyOrder creates 6 volumes in every order.
func TestCreateInAnyOrder(t *testing.T) {
	names := []string{"7", "a", "a7", "ab", "b", "zz"}
	var extend func(p impl.Pool, left []string)
	extend = func(p impl.Pool, left []string) {
		for i, name := range left {
			out := created(t, p, name, 1+len(left))
			expectPoolOk(t, "a new volume", out, true)
			extend(out, slices.Delete(slices.Clone(left), i, i+1))
		}
		if len(left) == 0 {
			for i, v := range p.Vols {
				if v.Name != names[i] || v.Size != 8-v.Age || v.Fixed {
					t.Errorf("the volumes are %v", p.Vols)
				}
			}
			expectNoCreate(t, "a seventh volume", p, "c", 1, impl.CoFull)
		}
	}
	extend(impl.PoolNew(), names)
}

func TestCreateRefuses(t *testing.T) {
	for _, name := range badNames {
		expectNoCreate(t, "no name", impl.PoolNew(), name, 4, impl.CoForm)
		expectNoCreate(t, "no name, no size", richPool(), name, 0, impl.CoForm)
		expectNoCreate(t, "no name, a full pool", volsPool(6), name, 4, impl.CoForm)
	}
	for _, name := range []string{"a", "b1", "c", "d"} {
		expectNoCreate(t, "an existing volume", richPool(), name, 4, impl.CoThere)
		expectNoCreate(t, "an existing volume, no size", richPool(), name, 13, impl.CoThere)
	}
	for i := range 6 {
		expectNoCreate(t, "an existing volume of a full pool", volsPool(6), string(rune('b'+2*i)), 4, impl.CoThere)
	}
	for _, size := range append(farInts, 0, 13, 14, 255) {
		expectNoCreate(t, "no size", impl.PoolNew(), "a", size, impl.CoRange)
		expectNoCreate(t, "no size", richPool(), "b", size, impl.CoRange)
		expectNoCreate(t, "no size, 6 volumes", volsPool(6), "a", size, impl.CoRange)
		expectNoCreate(t, "no size, no Id", lastPool(61), "a", size, impl.CoRange)
	}
	for _, size := range []int{1, 5, 12} {
		expectNoCreate(t, "6 volumes", volsPool(6), "a", size, impl.CoFull)
		expectNoCreate(t, "6 volumes, before all", volsPool(6), "0", size, impl.CoFull)
		expectNoCreate(t, "16 versions", agesPool(16), "a", size, impl.CoFull)
		expectNoCreate(t, "no Id", lastPool(61), "a", size, impl.CoFull)
	}
}

func TestCreateAtTheLimits(t *testing.T) {
	for what, p := range soundPools(t) {
		for _, size := range []int{0, 1, 12, 13} {
			for _, name := range []string{"0", "a", "b", "c5", "v", "zz", "zz1"} {
				want, is := afterCreate(p, name, size)
				got, code := impl.Create(p, name, size)
				if code != is || !samePool(got, want) {
					t.Errorf("%s: Create(%v, %q, %d) = %v, %d, want %v, %d", what, p, name, size, got, code, want, is)
				}
			}
		}
	}
	p := created(t, volsPool(5), "a", 12)
	if len(p.Vols) != 6 || p.Next != 7 {
		t.Errorf("the sixth volume: %v", p)
	}
	p = created(t, agesPool(15), "a", 12)
	if len(p.Ages) != 16 {
		t.Errorf("the 16th version: %v", p)
	}
	p = created(t, lastPool(60), "a", 12)
	if p.Next != 61 || p.Vols[0].Age != 60 {
		t.Errorf("the last Id: %v", p)
	}
}

func TestSnap(t *testing.T) {
	for i, v := range richPool().Vols {
		for _, fixed := range []bool{false, true} {
			for _, to := range []string{"0", "aa", "b", "bb", "cc", "z"} {
				want := richPool()
				want.Ages, want.Next = append(want.Ages, agesOf(12, v.Age, 13, v.Age)...), 14
				want.Vols[i].Age = 12
				want.Vols = withVol(want.Vols, impl.Vol{Name: to, Age: 13, Size: v.Size, Fixed: fixed})
				p, code := impl.Snap(richPool(), v.Name, to, fixed)
				expectDone(t, "a snapshot", p, code, want)
				all := contents(richPool())
				all[to] = all[v.Name]
				expectContents(t, "a snapshot", p, all)
			}
		}
	}
}

// TestSnapKeepsWhetherAVolumeIsFixed takes snapshots of read-only volumes: the
// snapshot alone decides whether it may be written.
func TestSnapKeepsWhetherAVolumeIsFixed(t *testing.T) {
	for _, was := range []bool{false, true} {
		for _, fixed := range []bool{false, true} {
			p := volsPool(1)
			p.Vols[0].Fixed = was
			p = snapped(t, p, "b", "c", fixed)
			if p.Vols[0].Fixed != was || p.Vols[1].Fixed != fixed {
				t.Errorf("the volumes are %v", p.Vols)
			}
			for i, name := range []string{"b", "c"} {
				want := impl.CoGood
				if p.Vols[i].Fixed {
					want = impl.CoFixed
				}
				if _, code := impl.Write(p, name, 0, 1); code != want {
					t.Errorf("a write of %q gives %d, want %d", name, code, want)
				}
			}
		}
	}
}

func TestSnapRefuses(t *testing.T) {
	for _, bad := range badNames {
		expectNoSnap(t, "no name", richPool(), bad, "e", impl.CoForm)
		expectNoSnap(t, "no name of the snapshot", richPool(), "a", bad, impl.CoForm)
		expectNoSnap(t, "no name of the snapshot, no volume", richPool(), "e", bad, impl.CoForm)
		expectNoSnap(t, "no names", richPool(), bad, bad, impl.CoForm)
		expectNoSnap(t, "no name, an existing snapshot", richPool(), bad, "a", impl.CoForm)
		expectNoSnap(t, "no name of the snapshot, a full pool", volsPool(6), "b", bad, impl.CoForm)
	}
	for _, name := range []string{"0", "b", "b10", "zzzzzz"} {
		expectNoSnap(t, "no volume", richPool(), name, "e", impl.CoNone)
		expectNoSnap(t, "no volume, an existing snapshot", richPool(), name, "a", impl.CoNone)
		expectNoSnap(t, "no volume, its own name", richPool(), name, name, impl.CoNone)
		expectNoSnap(t, "no volumes", impl.PoolNew(), name, "e", impl.CoNone)
		expectNoSnap(t, "no volume, no Id", lastPool(61), name, "e", impl.CoNone)
	}
	for _, name := range []string{"a", "b1", "c", "d"} {
		for _, to := range []string{"a", "b1", "c", "d"} {
			expectNoSnap(t, "an existing snapshot", richPool(), name, to, impl.CoThere)
		}
	}
	expectNoSnap(t, "an existing snapshot, 6 volumes", volsPool(6), "b", "d", impl.CoThere)
	expectNoSnap(t, "an existing snapshot, no Id", lastPool(61), "z", "z", impl.CoThere)
	expectNoSnap(t, "6 volumes", volsPool(6), "b", "a", impl.CoFull)
	expectNoSnap(t, "16 versions", agesPool(16), "v", "a", impl.CoFull)
	expectNoSnap(t, "15 versions", agesPool(15), "v", "a", impl.CoFull)
	expectNoSnap(t, "no Id", lastPool(61), "z", "a", impl.CoFull)
	expectNoSnap(t, "a single Id", lastPool(60), "z", "a", impl.CoFull)
}

func TestSnapAtTheLimits(t *testing.T) {
	for what, p := range soundPools(t) {
		names := []string{"a", "b", "v", "z", "zz"}
		for _, name := range names {
			for _, to := range append(names, "0", "m") {
				want, is := afterSnap(p, name, to, true)
				got, code := impl.Snap(p, name, to, true)
				if code != is || !samePool(got, want) {
					t.Errorf("%s: Snap(%v, %q, %q, true) = %v, %d, want %v, %d", what, p, name, to, got, code, want, is)
				}
			}
		}
	}
	p := snapped(t, volsPool(5), "d", "a", false)
	if len(p.Vols) != 6 || p.Next != 8 {
		t.Errorf("the sixth volume: %v", p)
	}
	p = snapped(t, agesPool(14), "v", "a", false)
	if len(p.Ages) != 16 {
		t.Errorf("the 15th and 16th version: %v", p)
	}
	p = snapped(t, lastPool(59), "z", "a", false)
	if p.Next != 61 || p.Vols[0].Age != 60 || p.Vols[1].Age != 59 {
		t.Errorf("the last Ids: %v", p)
	}
}

// TestWriteToEachBlock writes every block of every volume, over each kind of
// mapping.
func TestWriteToEachBlock(t *testing.T) {
	for i, v := range richPool().Vols {
		for blk := range v.Size {
			for _, n := range []int{0, 1, 4321, 65535} {
				old := richPool()
				if v.Fixed {
					expectNoWrite(t, "a read-only volume", old, v.Name, blk, n, impl.CoFixed)
					continue
				}
				want, _ := afterWrite(old, v.Name, blk, n)
				p, code := impl.Write(old, v.Name, blk, n)
				expectDone(t, "a write", p, code, want)
				expectBlock(t, "a write", p, i, blk, n)
				all := contents(old)
				all[v.Name][blk] = n
				expectContents(t, "a write", p, all)
			}
		}
	}
}

// TestWriteTakesAndFreesCells covers a block without a mapping, one that is
// inherited, one of kind KGone and one that is overwritten.
func TestWriteTakesAndFreesCells(t *testing.T) {
	old := richPool()
	taken := withCell(old.Cells, 1, cellAs(41, 500))
	for _, c := range []struct {
		what  string
		name  string
		blk   int
		cells []impl.Cell
	}{
		{"no mapping", "c", 9, taken},
		{"inherited", "c", 0, taken},
		{"KGone", "a", 0, taken},
		{"KGone that is inherited", "a", 3, taken},
		{"overwritten", "a", 1, withCell(taken, 7, impl.Cell{Gen: 0})},
		{"overwritten in the other node", "c", 2, withCell(taken, 23, impl.Cell{Gen: 944})},
	} {
		p := written(t, old, c.name, c.blk, 500)
		expectCells(t, c.what, p.Cells, c.cells)
		age := old.Vols[volNamed(old, c.name)].Age
		expectInTree(t, c.what, p.T, refTo(c.blk, age, 1, 41))
		expectKeys(t, c.what, impl.TreeKeys(p.T), putInto(liveTreeKeys(old.T), refTo(c.blk, age, 1, 41)))
	}
}

// TestWriteOverItself writes one block again and again: the two cells take
// turns, and each has the next generation when it is taken.
func TestWriteOverItself(t *testing.T) {
	p := created(t, impl.PoolNew(), "a", 3)
	for n := range 2100 {
		p = written(t, p, "a", 2, n)
		cells := make([]impl.Cell, 24)
		cells[n%2] = cellAs(n/2%1000, n)
		if n > 0 {
			cells[1-n%2].Gen = (n + 1) / 2 % 1000
		}
		expectCells(t, "written again", p.Cells, cells)
		expectBlock(t, "written again", p, 0, 2, n)
		expectPoolOk(t, "written again", p, true)
	}
}

func TestWriteEachWord(t *testing.T) {
	p := created(t, impl.PoolNew(), "a", 1)
	for n := 0; n < 65536; n += 13 {
		expectBlock(t, "a word", written(t, p, "a", 0, n), 0, 0, n)
	}
	expectBlock(t, "the last word", written(t, p, "a", 0, 65535), 0, 0, 65535)
}

// TestWritesOfSnapshots checks that a later write to a volume or to a snapshot
// of it does not change the other one.
func TestWritesOfSnapshots(t *testing.T) {
	p := created(t, impl.PoolNew(), "a", 3)
	p = written(t, written(t, p, "a", 0, 10), "a", 1, 11)
	p = snapped(t, p, "a", "b", false)
	expectContents(t, "a snapshot", p, map[string][]int{"a": {10, 11, 0}, "b": {10, 11, 0}})
	p = written(t, p, "a", 0, 20)
	p = written(t, p, "b", 1, 31)
	p = written(t, p, "b", 2, 32)
	expectContents(t, "writes to both", p, map[string][]int{"a": {20, 11, 0}, "b": {10, 31, 32}})
	p = snapped(t, p, "b", "c", true)
	p = snapped(t, p, "a", "0", false)
	p = written(t, p, "b", 2, 0)
	p = written(t, p, "0", 0, 40)
	expectContents(t, "two more snapshots", p, map[string][]int{"0": {40, 11, 0}, "a": {20, 11, 0}, "b": {10, 31, 0}, "c": {10, 31, 32}})
	expectNoWrite(t, "a read-only snapshot", p, "c", 0, 1, impl.CoFixed)
	p = snapped(t, p, "c", "d", false)
	p = written(t, p, "d", 0, 50)
	expectContents(t, "the snapshot of a snapshot", p, map[string][]int{"0": {40, 11, 0}, "a": {20, 11, 0}, "b": {10, 31, 0}, "c": {10, 31, 32}, "d": {50, 31, 32}})
	expectPoolOk(t, "snapshots", p, true)
}

func TestWriteRefuses(t *testing.T) {
	for _, name := range badNames {
		expectNoWrite(t, "no name", richPool(), name, 0, 1, impl.CoForm)
		expectNoWrite(t, "no name, no block", richPool(), name, -1, -1, impl.CoForm)
	}
	for _, name := range []string{"0", "b", "b10", "zzzzzz"} {
		expectNoWrite(t, "no volume", richPool(), name, 0, 1, impl.CoNone)
		expectNoWrite(t, "no volume, no block", richPool(), name, 99, 1, impl.CoNone)
		expectNoWrite(t, "no volume, no word", richPool(), name, 0, -1, impl.CoNone)
		expectNoWrite(t, "no volumes", impl.PoolNew(), name, 0, 1, impl.CoNone)
		expectNoWrite(t, "no volume, no cell", cellsPool(t, 24), "c", 0, 1, impl.CoNone)
	}
	for _, blk := range append(farInts, 0, 3, 4, 12) {
		expectNoWrite(t, "a read-only volume", richPool(), "b1", blk, 1, impl.CoFixed)
		expectNoWrite(t, "a read-only volume, no word", richPool(), "b1", blk, 65536, impl.CoFixed)
	}
	for i, name := range []string{"a", "b1", "c", "d"} {
		p := richPool()
		p.Vols[i].Fixed = false
		for _, blk := range append(farInts, p.Vols[i].Size, p.Vols[i].Size+1, 15, 16) {
			expectNoWrite(t, "no block", p, name, blk, 1, impl.CoRange)
			expectNoWrite(t, "no block, no word", p, name, blk, -1, impl.CoRange)
		}
		for _, n := range farInts {
			expectNoWrite(t, "no word", p, name, 0, n, impl.CoRange)
			expectNoWrite(t, "no word", p, name, p.Vols[i].Size-1, n, impl.CoRange)
		}
	}
	full := cellsPool(t, 24)
	full.Vols[1].Fixed = true
	expectNoWrite(t, "no cell, a read-only volume", full, "b", 0, 1, impl.CoFixed)
	expectNoWrite(t, "no cell, no block", full, "a", 12, 1, impl.CoRange)
	expectNoWrite(t, "no cell, no word", full, "a", 0, 65536, impl.CoRange)
}

func TestWriteWithoutACell(t *testing.T) {
	full := cellsPool(t, 24)
	for _, name := range []string{"a", "b"} {
		for blk := range 12 {
			expectNoWrite(t, "no cell for a block that is overwritten", full, name, blk, 1, impl.CoFull)
		}
	}
	p := cellsPool(t, 22)
	for _, blk := range []int{3, 11} {
		expectPoolOk(t, "the last cell but one", written(t, p, "a", blk, 1), true)
	}
	p = written(t, p, "a", 11, 1)
	expectNoWrite(t, "no cell for a block without one", written(t, p, "b", 11, 1), "b", 11, 1, impl.CoFull)
	// With one cell left, all blocks but one may be overwritten any number of times.
	for n := range 60 {
		p = written(t, p, "b", n%11, n)
		expectPoolOk(t, "the last cell", p, true)
	}
}

func TestWriteWithoutRoomForAKey(t *testing.T) {
	full := keysPool(t, 60)
	for i, v := range full.Vols {
		for blk := range 12 {
			want, _ := afterWrite(full, v.Name, blk, 9)
			p, code := impl.Write(full, v.Name, blk, 9)
			expectDone(t, "a write over KGone", p, code, want)
			expectBlock(t, "a write over KGone", p, i, blk, 9)
		}
	}
	full = created(t, full, "a", 12)
	for blk := range 12 {
		expectNoWrite(t, "60 keys", full, "a", blk, 9, impl.CoFull)
	}
	p := created(t, keysPool(t, 59), "a", 12)
	p = written(t, p, "a", 4, 9)
	expectPoolOk(t, "the 60th key", p, true)
	expectNoWrite(t, "60 keys", p, "a", 5, 9, impl.CoFull)
	p = written(t, p, "a", 4, 10)
	expectContents(t, "the 60th key overwritten", p, map[string][]int{"a": {0, 0, 0, 0, 10, 0, 0, 0, 0, 0, 0, 0},
		"b": make([]int, 12), "d": make([]int, 12), "f": make([]int, 12), "h": make([]int, 12), "j": make([]int, 12)})
}

func TestWriteAtTheLimits(t *testing.T) {
	for what, p := range soundPools(t) {
		for _, name := range []string{"a", "b", "b1", "d", "v", "z", "zz"} {
			for blk := -1; blk <= 12; blk++ {
				want, is := afterWrite(p, name, blk, 77)
				got, code := impl.Write(p, name, blk, 77)
				if code != is || !samePool(got, want) {
					t.Errorf("%s: Write(%v, %q, %d, 77) = %v, %d, want %v, %d", what, p, name, blk, got, code, want, is)
				}
			}
		}
	}
}

func TestWriteSplitsANodeOfMany(t *testing.T) {
	for _, n := range []int{1, 2, 19, 20} {
		p := nodesPool(n)
		want, is := afterWrite(p, "f", 0, 8)
		got, code := impl.Write(p, "f", 0, 8)
		if is != impl.CoGood {
			t.Fatalf("%d nodes: the write should give %d", n, is)
		}
		expectDone(t, fmt.Sprint(n, " nodes"), got, code, want)
		expectRead(t, fmt.Sprint(n, " nodes"), got, "f", 0, 8)
	}
}

func TestKill(t *testing.T) {
	for i, v := range richPool().Vols {
		want := richPool()
		want.Vols = slices.Delete(want.Vols, i, i+1)
		p, code := impl.Kill(richPool(), v.Name)
		expectDone(t, "a volume less", p, code, want)
		all := contents(richPool())
		delete(all, v.Name)
		expectContents(t, "a volume less", p, all)
		expectIdle(t, "the version of the volume", p, v.Age, true)
		expectNoKill(t, "a volume that is gone", p, v.Name, impl.CoNone)
		expectNoRead(t, "a volume that is gone", p, v.Name, 0, impl.CoNone)
	}
	p, code := impl.Kill(lastPool(61), "z")
	want := lastPool(61)
	want.Vols = nil
	expectDone(t, "the only volume", p, code, want)
}

// TestKillInAnyOrder removes 6 volumes in every order.
func TestKillInAnyOrder(t *testing.T) {
	var remove func(p impl.Pool)
	remove = func(p impl.Pool) {
		for i, v := range p.Vols {
			out := killed(t, p, v.Name)
			if !slices.Equal(out.Vols, slices.Concat(p.Vols[:i], p.Vols[i+1:])) || len(out.Ages) != 6 || out.Next != 7 {
				t.Errorf("Kill(%v, %q) = %v", p, v.Name, out)
			}
			expectPoolOk(t, "a volume less", out, true)
			remove(out)
		}
	}
	remove(volsPool(6))
}

func TestKillRefuses(t *testing.T) {
	for _, name := range badNames {
		expectNoKill(t, "no name", richPool(), name, impl.CoForm)
		expectNoKill(t, "no name, no volumes", impl.PoolNew(), name, impl.CoForm)
	}
	for _, name := range []string{"0", "b", "b10", "zzzzzz"} {
		expectNoKill(t, "no volume", richPool(), name, impl.CoNone)
		expectNoKill(t, "no volumes", impl.PoolNew(), name, impl.CoNone)
	}
}

func TestKillAtTheLimits(t *testing.T) {
	for what, p := range soundPools(t) {
		for _, name := range []string{"a", "b", "b1", "d", "v", "z", "zz"} {
			want, is := afterKill(p, name)
			got, code := impl.Kill(p, name)
			if code != is || !samePool(got, want) {
				t.Errorf("%s: Kill(%v, %q) = %v, %d, want %v, %d", what, p, name, got, code, want, is)
			}
		}
	}
}

// TestKillMakesRoomForAVolumeAlone: the version, the cells and the keys of the
// volume are used as before.
func TestKillMakesRoomForAVolumeAlone(t *testing.T) {
	p := created(t, killed(t, volsPool(6), "d"), "a", 12)
	if len(p.Vols) != 6 || len(p.Ages) != 7 || p.Next != 8 {
		t.Errorf("a new volume: %v", p)
	}
	expectNoCreate(t, "16 versions", killed(t, agesPool(16), "v"), "a", 12, impl.CoFull)
	expectNoCreate(t, "no Id", killed(t, lastPool(61), "z"), "a", 12, impl.CoFull)
	expectNoWrite(t, "24 used cells", killed(t, cellsPool(t, 24), "a"), "b", 0, 1, impl.CoFull)
	p = created(t, killed(t, keysPool(t, 60), "b"), "a", 12)
	expectNoWrite(t, "60 keys", p, "a", 0, 1, impl.CoFull)
}

// TestKillAndCreateAgain: a volume has nothing of an earlier one with its name.
func TestKillAndCreateAgain(t *testing.T) {
	p := created(t, impl.PoolNew(), "a", 3)
	p = written(t, written(t, p, "a", 0, 10), "a", 2, 12)
	p = snapped(t, p, "a", "b", false)
	p = written(t, p, "a", 1, 11)
	p = created(t, killed(t, p, "a"), "a", 3)
	expectContents(t, "created again", p, map[string][]int{"a": {0, 0, 0}, "b": {10, 0, 12}})
	p = snapped(t, killed(t, p, "a"), "b", "a", true)
	expectContents(t, "a snapshot with the name", p, map[string][]int{"a": {10, 0, 12}, "b": {10, 0, 12}})
	p = snapped(t, killed(t, p, "b"), "a", "b", false)
	p = written(t, p, "b", 0, 20)
	expectContents(t, "the snapshot of a snapshot", p, map[string][]int{"a": {10, 0, 12}, "b": {20, 0, 12}})
	expectPoolOk(t, "created again", p, true)
}

func TestRead(t *testing.T) {
	want := [][]int{{0, 42, 0, 0}, {100, 65535, 0, 9}, {100, 0, 7, 0, 0, 0, 0, 0, 0, 0, 0, 77}, {31}}
	for i, v := range richPool().Vols {
		for blk, n := range want[i] {
			expectRead(t, "a block", richPool(), v.Name, blk, n)
		}
		for _, blk := range append(farInts, v.Size, v.Size+1, 15, 16) {
			expectNoRead(t, "no block", richPool(), v.Name, blk, impl.CoRange)
		}
	}
	for what, p := range soundPools(t) {
		for _, name := range []string{"a", "b", "b1", "c", "d", "f", "v", "z", "zz", "", "Z"} {
			for blk := -2; blk <= 16; blk++ {
				want, is := readIn(p, name, blk)
				if got, code := impl.Read(p, name, blk); got != want || code != is {
					t.Errorf("%s: Read(%v, %q, %d) = %d, %d, want %d, %d", what, p, name, blk, got, code, want, is)
				}
			}
		}
	}
}

func TestReadRefuses(t *testing.T) {
	for _, name := range badNames {
		expectNoRead(t, "no name", richPool(), name, 0, impl.CoForm)
		expectNoRead(t, "no name, no block", richPool(), name, -1, impl.CoForm)
		expectNoRead(t, "no name, no volumes", impl.PoolNew(), name, 0, impl.CoForm)
	}
	for _, name := range []string{"0", "b", "b10", "zzzzzz"} {
		for _, blk := range append(farInts, 0, 3, 12) {
			expectNoRead(t, "no volume", richPool(), name, blk, impl.CoNone)
			expectNoRead(t, "no volumes", impl.PoolNew(), name, blk, impl.CoNone)
		}
	}
}

// TestWrittenBlocksAreReadBack writes each block of a volume of each size, beside
// another volume, and reads all of them.
func TestWrittenBlocksAreReadBack(t *testing.T) {
	for size := 1; size <= 12; size++ {
		p := created(t, created(t, impl.PoolNew(), "a", size), "b", 3)
		p = written(t, p, "b", 1, 8)
		for blk := range size {
			for _, n := range []int{0, 1, 255, 256, 65534, 65535} {
				all := map[string][]int{"a": make([]int, size), "b": {0, 8, 0}}
				all["a"][blk] = n
				expectContents(t, "one block", written(t, p, "a", blk, n), all)
			}
		}
		all := map[string][]int{"a": nil, "b": {0, 8, 0}}
		for blk := range size {
			p = written(t, p, "a", blk, 1000+blk)
			all["a"] = append(all["a"], 1000+blk)
		}
		expectContents(t, "all blocks", p, all)
	}
}

// TestBlocksThatWereNeverWritten reads, discards and cuts off blocks that no
// version has: they are 0 and use no keys and cells.
func TestBlocksThatWereNeverWritten(t *testing.T) {
	p := snapped(t, created(t, impl.PoolNew(), "a", 12), "a", "b", false)
	p = written(t, p, "b", 4, 9)
	p = resized(t, created(t, p, "c", 1), "c", 12)
	p = snapped(t, p, "b", "d", false)
	all := map[string][]int{"a": make([]int, 12), "b": {0, 0, 0, 0, 9, 0, 0, 0, 0, 0, 0, 0}, "c": make([]int, 12), "d": {0, 0, 0, 0, 9, 0, 0, 0, 0, 0, 0, 0}}
	expectContents(t, "never written", p, all)
	for _, name := range []string{"a", "b", "c", "d"} {
		for blk := range 12 {
			if all[name][blk] == 0 {
				got, code := impl.Discard(p, name, blk)
				expectDone(t, "a discard", got, code, p)
			}
		}
		got, code := impl.Resize(p, name, 5)
		want := deepPool(p)
		want.Vols[volNamed(p, name)].Size = 5
		expectDone(t, "a smaller volume", got, code, want)
		got, code = impl.Resize(got, name, 12)
		expectDone(t, "a larger volume", got, code, p)
	}
}

// TestDiscardOfEachWay goes through what two ancestors and the version itself
// have at a block, in all combinations.
func TestDiscardOfEachWay(t *testing.T) {
	ways := []string{"none", "KData", "KGone", "deleted"}
	for bits := range 4 * 4 * 4 {
		p := lastPool(10)
		p.Ages, p.Vols[0].Age = agesOf(3, 0, 5, 3, 7, 5, 9, 5), 7
		p.T, _ = impl.TreePut(p.T, refTo(3, 9, 20, 0))
		p.T, _ = impl.TreePut(p.T, refTo(2, 7, 21, 0))
		p.Cells[20], p.Cells[21] = cellAs(0, 720), cellAs(0, 721)
		var what []string
		for i := range 3 {
			way := bits >> (2 * i) & 3
			p = withWay(p, 3, 3+2*i, 10+i, way)
			what = append(what, ways[way])
		}
		expectCleared(t, strings.Join(what, ", "), p, bits&3, bits>>2&3, bits>>4)
	}
}

// withWay returns p with a mapping of the version id: none, KData, KGone or one
// that was deleted.
func withWay(p impl.Pool, blk, id, cell, way int) impl.Pool {
	if way == 1 || way == 3 {
		p.T, _ = impl.TreePut(p.T, refTo(blk, id, cell, 0))
		p.Cells[cell] = cellAs(0, 100+cell)
	}
	if way == 2 {
		p.T, _ = impl.TreePut(p.T, goneKey(blk, id))
	}
	if way == 3 {
		p.T, _ = impl.TreePut(p.T, noneKey(blk, id))
		p.Cells[cell] = impl.Cell{Gen: 1}
	}
	return p
}

// expectCleared discards block 3 of the version 7, whose mapping and those of
// its ancestors 5 and 3 have these ways, and the cells 10, 11 and 12.
func expectCleared(t *testing.T, what string, p impl.Pool, far, near, own int) {
	t.Helper()
	want, _ := afterDiscard(p, "z", 3)
	got, code := impl.Discard(p, "z", 3)
	expectDone(t, what, got, code, want)
	expectRead(t, what, got, "z", 3, 0)
	expectRead(t, what, got, "z", 2, 721)
	hides := near == 1 || near != 2 && far == 1
	k, ok := impl.TreeAt(got.T, 3, 7)
	if ok != hides || ok && k != goneKey(3, 7) {
		t.Errorf("%s: TreeAt gives %v, %v", what, k, ok)
	}
	if !hides && (own == 0 || own == 3) && !samePool(got, p) {
		t.Errorf("%s: the pool is %v, want %v as before", what, got, p)
	}
	cells := slices.Clone(p.Cells)
	if own == 1 {
		cells[12] = impl.Cell{Gen: 1}
	}
	expectCells(t, what, got.Cells, cells)
	for _, id := range []int{3, 5, 9} {
		before, had := impl.TreeAt(p.T, 3, id)
		after, has := impl.TreeAt(got.T, 3, id)
		if before != after || had != has {
			t.Errorf("%s: the key of version %d is %v, want %v", what, id, after, before)
		}
	}
}

// TestDiscardOfEachBlock discards every block of every volume.
func TestDiscardOfEachBlock(t *testing.T) {
	for _, v := range richPool().Vols {
		for blk := range v.Size {
			old := richPool()
			if v.Fixed {
				expectNoDiscard(t, "a read-only volume", old, v.Name, blk, impl.CoFixed)
				continue
			}
			want, _ := afterDiscard(old, v.Name, blk)
			p, code := impl.Discard(old, v.Name, blk)
			expectDone(t, "a discard", p, code, want)
			all := contents(old)
			all[v.Name][blk] = 0
			expectContents(t, "a discard", p, all)
			again, code := impl.Discard(p, v.Name, blk)
			want, _ = afterDiscard(want, v.Name, blk)
			expectDone(t, "a second discard", again, code, want)
			all[v.Name][blk] = 77
			expectContents(t, "a write after a discard", written(t, again, v.Name, blk, 77), all)
		}
	}
}

// TestDiscardKeepsAndFreesCells states the keys and cells that are left.
func TestDiscardKeepsAndFreesCells(t *testing.T) {
	old := richPool()
	for _, c := range []struct {
		what  string
		name  string
		blk   int
		key   impl.Key
		there bool
		cells []impl.Cell
	}{
		{"inherited as KData", "c", 0, goneKey(0, 3), true, old.Cells},
		{"inherited as KGone", "a", 3, impl.Key{}, false, old.Cells},
		{"its own KGone that hides KData", "a", 0, goneKey(0, 6), true, old.Cells},
		{"its own and inherited as KData", "a", 1, goneKey(1, 6), true, withCell(old.Cells, 7, impl.Cell{Gen: 0})},
		{"its own alone", "c", 2, impl.Key{}, false, withCell(old.Cells, 23, impl.Cell{Gen: 944})},
		{"its own alone, the last block", "c", 11, impl.Key{}, false, withCell(old.Cells, 6, impl.Cell{Gen: 247})},
		{"its own alone, hidden by no child", "d", 0, impl.Key{}, false, withCell(old.Cells, 8, impl.Cell{Gen: 329})},
		{"nobody's", "a", 2, impl.Key{}, false, old.Cells},
		{"another version's", "c", 5, impl.Key{}, false, old.Cells},
	} {
		p := discarded(t, old, c.name, c.blk)
		expectCells(t, c.what, p.Cells, c.cells)
		got, ok := impl.TreeAt(p.T, c.blk, old.Vols[volNamed(old, c.name)].Age)
		if got != c.key || ok != c.there {
			t.Errorf("%s: the key is %v, %v, want %v, %v", c.what, got, ok, c.key, c.there)
		}
		if c.what == "nobody's" || c.what == "another version's" || c.what == "inherited as KGone" {
			expectPool(t, c.what, p, old)
		}
	}
}

// TestDiscardsOfSnapshots checks that a discard in a volume or in a snapshot of
// it does not change the other one.
func TestDiscardsOfSnapshots(t *testing.T) {
	p := created(t, impl.PoolNew(), "a", 3)
	p = written(t, written(t, p, "a", 0, 10), "a", 1, 11)
	p = snapped(t, snapped(t, p, "a", "b", false), "a", "c", true)
	p = discarded(t, p, "a", 0)
	p = discarded(t, p, "b", 1)
	expectContents(t, "a discard in both", p, map[string][]int{"a": {0, 11, 0}, "b": {10, 0, 0}, "c": {10, 11, 0}})
	p = snapped(t, p, "a", "d", false)
	p = written(t, p, "a", 0, 20)
	expectContents(t, "a write over KGone", p, map[string][]int{"a": {20, 11, 0}, "b": {10, 0, 0}, "c": {10, 11, 0}, "d": {0, 11, 0}})
	p = discarded(t, discarded(t, p, "a", 0), "d", 1)
	expectContents(t, "two more discards", p, map[string][]int{"a": {0, 11, 0}, "b": {10, 0, 0}, "c": {10, 11, 0}, "d": {0, 0, 0}})
	expectNotInTree(t, "a block inherited as KGone", p.T, 0, p.Vols[0].Age)
	expectInTree(t, "a block inherited as KData", p.T, goneKey(1, p.Vols[3].Age))
	expectNoDiscard(t, "a read-only snapshot", p, "c", 0, impl.CoFixed)
	expectPoolOk(t, "snapshots", p, true)
}

func TestDiscardRefuses(t *testing.T) {
	for _, name := range badNames {
		expectNoDiscard(t, "no name", richPool(), name, 0, impl.CoForm)
		expectNoDiscard(t, "no name, no block", richPool(), name, -1, impl.CoForm)
	}
	for _, name := range []string{"0", "b", "b10", "zzzzzz"} {
		expectNoDiscard(t, "no volume", richPool(), name, 0, impl.CoNone)
		expectNoDiscard(t, "no volume, no block", richPool(), name, 99, impl.CoNone)
		expectNoDiscard(t, "no volumes", impl.PoolNew(), name, 0, impl.CoNone)
	}
	expectNoDiscard(t, "no volume, 60 keys", hiddenPool(t, 60), "c", 1, impl.CoNone)
	for _, blk := range append(farInts, 0, 2, 3, 4, 12) {
		expectNoDiscard(t, "a read-only volume", richPool(), "b1", blk, impl.CoFixed)
	}
	for i, name := range []string{"a", "b1", "c", "d"} {
		p := richPool()
		p.Vols[i].Fixed = false
		for _, blk := range append(farInts, p.Vols[i].Size, p.Vols[i].Size+1, 15, 16) {
			expectNoDiscard(t, "no block", p, name, blk, impl.CoRange)
		}
	}
	full := hiddenPool(t, 60)
	full.Vols[1].Fixed = true
	expectNoDiscard(t, "60 keys, a read-only volume", full, "b", 1, impl.CoFixed)
	expectNoDiscard(t, "60 keys, no block", full, "a", 12, impl.CoRange)
}

func TestDiscardWithoutRoomForAKey(t *testing.T) {
	full := hiddenPool(t, 60)
	for blk := range 12 {
		if blk == 1 || blk == 4 || blk == 9 {
			expectNoDiscard(t, "no room for KGone", full, "a", blk, impl.CoFull)
			continue
		}
		p, code := impl.Discard(full, "a", blk)
		expectDone(t, "no key is needed", p, code, full)
	}
	p := discarded(t, hiddenPool(t, 59), "b", 4)
	expectPoolOk(t, "the 60th key", p, true)
	expectNoDiscard(t, "60 keys", p, "b", 9, impl.CoFull)
	expectNoDiscard(t, "60 keys", p, "a", 4, impl.CoFull)
	want, _ := afterDiscard(p, "b", 4)
	expectPool(t, "KGone instead of KGone", discarded(t, p, "b", 4), want)
	p = written(t, p, "b", 4, 7)
	expectRead(t, "60 keys", p, "b", 4, 7)
	p = discarded(t, p, "b", 4)
	expectRead(t, "60 keys", p, "b", 4, 0)
	expectNoWrite(t, "60 keys", p, "b", 9, 7, impl.CoFull)
}

func TestDiscardAtTheLimits(t *testing.T) {
	for what, p := range soundPools(t) {
		for _, name := range []string{"a", "b", "b1", "d", "f", "v", "z", "zz"} {
			for blk := -1; blk <= 12; blk++ {
				want, is := afterDiscard(p, name, blk)
				got, code := impl.Discard(p, name, blk)
				if code != is || !samePool(got, want) {
					t.Errorf("%s: Discard(%v, %q, %d) = %v, %d, want %v, %d", what, p, name, blk, got, code, want, is)
				}
			}
		}
	}
	p := cellsPool(t, 24)
	expectNoWrite(t, "no cell", p, "a", 3, 5, impl.CoFull)
	p = written(t, discarded(t, p, "b", 7), "a", 3, 5)
	expectRead(t, "the cell of a discarded block", p, "a", 3, 5)
	expectPoolOk(t, "the cell of a discarded block", p, true)
}

// TestResizeToEachSize changes the size of every volume: the blocks that it
// keeps and those of the others stay as they are.
func TestResizeToEachSize(t *testing.T) {
	for i, v := range richPool().Vols {
		for size := 1; size <= 12; size++ {
			old := richPool()
			if v.Fixed {
				expectNoResize(t, "a read-only volume", old, v.Name, size, impl.CoFixed)
				continue
			}
			want, _ := afterResize(old, v.Name, size)
			p, code := impl.Resize(old, v.Name, size)
			expectDone(t, "another size", p, code, want)
			for blk := range min(size, v.Size) {
				expectRead(t, "another size", p, v.Name, blk, impl.BlockOf(old, i, blk))
			}
			if size >= v.Size {
				old.Vols[i].Size = size
				expectPool(t, "a larger volume", p, old)
			}
			rest, kept := contents(richPool()), contents(p)
			delete(rest, v.Name)
			delete(kept, v.Name)
			if fmt.Sprint(rest) != fmt.Sprint(kept) {
				t.Errorf("the other volumes are %v, want %v", kept, rest)
			}
		}
	}
}

// TestResizeTwice gives a volume and then a snapshot of it each pair of sizes: a
// block is 0 when it was cut off.
func TestResizeTwice(t *testing.T) {
	start := created(t, impl.PoolNew(), "a", 12)
	for blk := range 12 {
		start = written(t, start, "a", blk, 100+blk)
	}
	for _, name := range []string{"a", "b"} {
		whole := snapped(t, start, "a", "b", false)
		whole = discarded(t, written(t, written(t, whole, name, 5, 205), name, 11, 211), name, 8)
		for first := 1; first <= 12; first++ {
			cut := resized(t, whole, name, first)
			all := contents(whole)
			all[name] = all[name][:first]
			expectContents(t, "the first size", cut, all)
			for second := 1; second <= 12; second++ {
				p := resized(t, cut, name, second)
				all[name] = make([]int, second)
				copy(all[name], contents(whole)[name][:first])
				expectContents(t, "the second size", p, all)
				expectPoolOk(t, "the second size", p, true)
			}
		}
	}
}

// TestResizeFreesCells cuts off blocks that a volume has itself.
func TestResizeFreesCells(t *testing.T) {
	old := richPool()
	p := resized(t, old, "c", 11)
	expectCells(t, "one block less", p.Cells, withCell(old.Cells, 6, impl.Cell{Gen: 247}))
	p = resized(t, old, "c", 3)
	expectCells(t, "the block behind the new size", p.Cells, withCell(old.Cells, 6, impl.Cell{Gen: 247}))
	p = resized(t, old, "c", 1)
	expectCells(t, "two cells", p.Cells, withCell(withCell(old.Cells, 6, impl.Cell{Gen: 247}), 23, impl.Cell{Gen: 944}))
	expectNotInTree(t, "two cells", p.T, 2, 3)
	p = resized(t, old, "a", 1)
	expectCells(t, "a block that is inherited too", p.Cells, withCell(old.Cells, 7, impl.Cell{Gen: 0}))
	expectInTree(t, "a block that is inherited too", p.T, goneKey(1, 6))
	expectKeys(t, "a block that is inherited too", impl.TreeKeys(p.T), putInto(liveTreeKeys(old.T), goneKey(1, 6)))
}

func TestResizeRefuses(t *testing.T) {
	for _, name := range badNames {
		expectNoResize(t, "no name", richPool(), name, 4, impl.CoForm)
		expectNoResize(t, "no name, no size", richPool(), name, 0, impl.CoForm)
	}
	for _, name := range []string{"0", "b", "b10", "zzzzzz"} {
		expectNoResize(t, "no volume", richPool(), name, 4, impl.CoNone)
		expectNoResize(t, "no volume, no size", richPool(), name, 13, impl.CoNone)
		expectNoResize(t, "no volumes", impl.PoolNew(), name, 1, impl.CoNone)
	}
	for _, size := range append(farInts, 0, 1, 4, 12, 13) {
		expectNoResize(t, "a read-only volume", richPool(), "b1", size, impl.CoFixed)
	}
	for _, size := range append(farInts, 0, 13, 14, 16, 255) {
		for _, name := range []string{"a", "c", "d"} {
			expectNoResize(t, "no size", richPool(), name, size, impl.CoRange)
		}
		expectNoResize(t, "no size, 60 keys", hiddenPool(t, 60), "a", size, impl.CoRange)
	}
	full := hiddenPool(t, 60)
	full.Vols[1].Fixed = true
	expectNoResize(t, "60 keys, a read-only volume", full, "b", 1, impl.CoFixed)
}

// TestResizeWithoutRoomForKeys covers sizes for which some of the keys that are
// needed have room: no block is cut off then.
func TestResizeWithoutRoomForKeys(t *testing.T) {
	for keys := 57; keys <= 60; keys++ {
		old := hiddenPool(t, keys)
		for size := 1; size <= 12; size++ {
			needed := 0
			for _, blk := range []int{1, 4, 9} {
				if blk >= size {
					needed++
				}
			}
			if keys+needed > 60 {
				expectNoResize(t, "no room", old, "a", size, impl.CoFull)
				continue
			}
			want, _ := afterResize(old, "a", size)
			p, code := impl.Resize(old, "a", size)
			expectDone(t, "room for each key", p, code, want)
		}
	}
}

// TestResizeStartsWithTheLastBlock starts with 60 keys and discards one block
// that gives a key back: only blocks below it may need that.
func TestResizeStartsWithTheLastBlock(t *testing.T) {
	for blk := range 12 {
		if blk == 1 || blk == 4 || blk == 9 {
			continue
		}
		p := written(t, hiddenPool(t, 59), "a", blk, 5)
		for size := 1; size <= 9; size++ {
			// Block 9 always needs a key; block 4 needs another one.
			if blk > 9 && size > 4 {
				expectPoolOk(t, "room for one key", resized(t, p, "a", size), true)
			} else {
				expectNoResize(t, "no room", p, "a", size, impl.CoFull)
			}
		}
	}
}

func TestResizeAtTheLimits(t *testing.T) {
	for what, p := range soundPools(t) {
		for _, name := range []string{"a", "b", "b1", "d", "f", "v", "z", "zz"} {
			for size := 0; size <= 13; size++ {
				want, is := afterResize(p, name, size)
				got, code := impl.Resize(p, name, size)
				if code != is || !samePool(got, want) {
					t.Errorf("%s: Resize(%v, %q, %d) = %v, %d, want %v, %d", what, p, name, size, got, code, want, is)
				}
			}
		}
	}
}

// TestResizeOnePerBlock compares a smaller size with a discard of each block that
// is cut off, the last one first.
func TestResizeOnePerBlock(t *testing.T) {
	for _, start := range []impl.Pool{richPool(), cellsPool(t, 24), hiddenPool(t, 30), keysPool(t, 60)} {
		for _, v := range start.Vols {
			if v.Fixed {
				continue
			}
			p := start
			for size := v.Size - 1; size >= 1; size-- {
				p = deepPool(discarded(t, p, v.Name, size))
				want := deepPool(p)
				want.Vols[volNamed(p, v.Name)].Size = size
				expectPool(t, "each block discarded", resized(t, start, v.Name, size), want)
			}
		}
	}
}

func TestOperationsRefuseInvalidPools(t *testing.T) {
	for what, p := range badPools() {
		for _, name := range []string{"a", "b1", "e", "zz", "", "A"} {
			for _, n := range []int{-1, 0, 1, 12, 13} {
				expectNoCreate(t, what, p, name, n, impl.CoForm)
				expectNoWrite(t, what, p, name, n, 1, impl.CoForm)
				expectNoDiscard(t, what, p, name, n, impl.CoForm)
				expectNoResize(t, what, p, name, n, impl.CoForm)
				expectNoRead(t, what, p, name, n, impl.CoForm)
			}
			expectNoKill(t, what, p, name, impl.CoForm)
			for _, to := range []string{"a", "e", "f", ""} {
				expectNoSnap(t, what, p, name, to, impl.CoForm)
			}
		}
	}
}

// change is an operation, with its result in the words of chapter 11 and with
// what it does to the blocks of all volumes if it succeeds.
type change struct {
	what   string
	call   func(p impl.Pool) (impl.Pool, int)
	want   func(p impl.Pool) (impl.Pool, int)
	effect func(all map[string][]int)
}

func createChange(name string, size int) change {
	return change{fmt.Sprintf("Create %q %d", name, size),
		func(p impl.Pool) (impl.Pool, int) { return impl.Create(p, name, size) },
		func(p impl.Pool) (impl.Pool, int) { return afterCreate(p, name, size) },
		func(all map[string][]int) { all[name] = make([]int, size) }}
}

func snapChange(name, to string, fixed bool) change {
	return change{fmt.Sprintf("Snap %q %q %v", name, to, fixed),
		func(p impl.Pool) (impl.Pool, int) { return impl.Snap(p, name, to, fixed) },
		func(p impl.Pool) (impl.Pool, int) { return afterSnap(p, name, to, fixed) },
		func(all map[string][]int) { all[to] = slices.Clone(all[name]) }}
}

func writeChange(name string, blk, n int) change {
	return change{fmt.Sprintf("Write %q %d %d", name, blk, n),
		func(p impl.Pool) (impl.Pool, int) { return impl.Write(p, name, blk, n) },
		func(p impl.Pool) (impl.Pool, int) { return afterWrite(p, name, blk, n) },
		func(all map[string][]int) { all[name][blk] = n }}
}

func killChange(name string) change {
	return change{fmt.Sprintf("Kill %q", name),
		func(p impl.Pool) (impl.Pool, int) { return impl.Kill(p, name) },
		func(p impl.Pool) (impl.Pool, int) { return afterKill(p, name) },
		func(all map[string][]int) { delete(all, name) }}
}

func discardChange(name string, blk int) change {
	return change{fmt.Sprintf("Discard %q %d", name, blk),
		func(p impl.Pool) (impl.Pool, int) { return impl.Discard(p, name, blk) },
		func(p impl.Pool) (impl.Pool, int) { return afterDiscard(p, name, blk) },
		func(all map[string][]int) { all[name][blk] = 0 }}
}

// resizeChange is for pools in which the blocks that a volume may get are 0.
func resizeChange(name string, size int) change {
	return change{fmt.Sprintf("Resize %q %d", name, size),
		func(p impl.Pool) (impl.Pool, int) { return impl.Resize(p, name, size) },
		func(p impl.Pool) (impl.Pool, int) { return afterResize(p, name, size) },
		func(all map[string][]int) {
			l := make([]int, size)
			copy(l, all[name])
			all[name] = l
		}}
}

// wide returns p with all blocks that its volumes may have.
func wide(p impl.Pool) impl.Pool {
	p = deepPool(p)
	for i := range p.Vols {
		p.Vols[i].Size = 12
	}
	return p
}

// expectReadOf expects what Read returns for a valid pool with these blocks.
func expectReadOf(t *testing.T, what string, p impl.Pool, all map[string][]int, name string, blk int) {
	t.Helper()
	l, ok := all[name]
	switch {
	case name == "Bad":
		expectNoRead(t, what, p, name, blk, impl.CoForm)
	case !ok:
		expectNoRead(t, what, p, name, blk, impl.CoNone)
	case !within(blk, 0, len(l)-1):
		expectNoRead(t, what, p, name, blk, impl.CoRange)
	default:
		expectRead(t, what, p, name, blk, l[blk])
	}
}

// TestWalksThroughPools performs operations of all kinds, valid and invalid,
// starting with several pools, and compares each result with the chapter's
// wording and with volumes that share nothing.
func TestWalksThroughPools(t *testing.T) {
	seed := uint32(77)
	next := func(limit int) int {
		seed = seed*1664525 + 1013904223
		return int(seed>>8) % limit
	}
	names := []string{"a", "b", "b1", "c", "d", "e", "f", "z", "0", "zz"}
	name := func() string {
		if next(30) == 0 {
			return "Bad"
		}
		return names[next(len(names))]
	}
	sound := soundPools(t)
	starts := sortedNames(sound)
	codes := map[string]int{}
	for walk := range 12 * len(starts) {
		p := wide(sound[starts[walk%len(starts)]])
		all := contents(p)
		for range 60 {
			c := writeChange(name(), next(14)-1, next(65600)-20)
			switch next(20) {
			case 0, 1:
				c = createChange(name(), next(14))
			case 2, 3, 4:
				c = snapChange(name(), name(), next(2) == 1)
			case 5, 6, 7, 8, 9:
				c = discardChange(name(), next(14)-1)
			case 10, 11:
				c = resizeChange(name(), next(14))
			case 12:
				c = killChange(name())
			}
			want, is := c.want(p)
			got, code := c.call(p)
			if code != is || !samePool(got, want) {
				t.Fatalf("%s of %v: %v, %d, want %v, %d", c.what, p, got, code, want, is)
			}
			expectPoolOk(t, "the walk", got, true)
			if code == impl.CoGood {
				c.effect(all)
			}
			expectBlocks(t, c.what, got, all)
			expectReadOf(t, c.what, got, all, name(), next(14)-1)
			codes[fmt.Sprint(strings.Fields(c.what)[0], " ", code)]++
			p = got
		}
	}
	for _, what := range []string{"Create 0", "Create 1", "Create 3", "Create 4", "Create 6", "Snap 0", "Snap 1", "Snap 2", "Snap 3", "Snap 6", "Write 0", "Write 1", "Write 2", "Write 4", "Write 5", "Write 6",
		"Kill 0", "Kill 1", "Kill 2", "Discard 0", "Discard 1", "Discard 2", "Discard 4", "Discard 5", "Discard 6", "Resize 0", "Resize 1", "Resize 2", "Resize 4", "Resize 5", "Resize 6"} {
		if codes[what] < 10 {
			t.Errorf("the walk is too short: %v", codes)
		}
	}
}

// someChanges returns operations that succeed and operations that fail, for some
// pool of somePools each.
func someChanges() []change {
	return []change{
		createChange("0", 4), createChange("a", 4), createChange("e", 0), createChange("e", 12), createChange("", 4), createChange("zz", 1),
		snapChange("a", "e", true), snapChange("a", "b", false), snapChange("d", "0", false), snapChange("a", "a", false), snapChange("x", "e", false), snapChange("a", "", false), snapChange("v", "w", false), snapChange("z", "zz", false),
		writeChange("a", 0, 5), writeChange("a", 1, 5), writeChange("a", 1, -1), writeChange("a", 12, 5), writeChange("b1", 0, 5), writeChange("c", 2, 5), writeChange("d", 0, 5), writeChange("v", 11, 5), writeChange("x", 0, 5), writeChange("", 0, 5),
		killChange("a"), killChange("d"), killChange("v"), killChange("x"), killChange(""),
		discardChange("a", 0), discardChange("a", 1), discardChange("a", 2), discardChange("a", 4), discardChange("b1", 0), discardChange("c", 0), discardChange("c", 9), discardChange("d", 0), discardChange("x", 0), discardChange("", 0),
		resizeChange("a", 1), resizeChange("a", 4), resizeChange("a", 12), resizeChange("a", 13), resizeChange("b1", 1), resizeChange("c", 1), resizeChange("d", 2), resizeChange("v", 1), resizeChange("x", 1), resizeChange("", 1),
	}
}

func TestPoolsShareNoMemory(t *testing.T) {
	for _, old := range somePools(t) {
		for _, c := range someChanges() {
			expectOwnMemory(t, c.what, old, func(p impl.Pool) impl.Pool {
				out, _ := c.call(p)
				return out
			})
		}
	}
}

func TestOperationsStopAtTheLength(t *testing.T) {
	p := volsPool(3)
	p.Vols = p.Vols[:2]
	expectNoWrite(t, "a spare volume", p, "f", 0, 1, impl.CoNone)
	expectNoSnap(t, "a spare volume", p, "f", "g", impl.CoNone)
	expectNoKill(t, "a spare volume", p, "f", impl.CoNone)
	expectNoRead(t, "a spare volume", p, "f", 0, impl.CoNone)
	expectNoDiscard(t, "a spare volume", p, "f", 0, impl.CoNone)
	expectNoResize(t, "a spare volume", p, "f", 1, impl.CoNone)
	out, code := impl.Create(p, "f", 5)
	want, _ := afterCreate(p, "f", 5)
	expectDone(t, "the name of a spare volume", out, code, want)
	if p.Vols[:3][2] != volAs("f", 3, 3) {
		t.Errorf("the spare volume is now %v", p.Vols[:3][2])
	}
	expectNoCreate(t, "the greatest size", p, "g", math.MaxInt, impl.CoRange)
}
