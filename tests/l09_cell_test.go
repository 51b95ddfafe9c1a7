package tests

import (
	"fmt"
	"math"
	"slices"
	"testing"

	"loop.example/g00467/impl"
)

// farInts are integers that are neither indices, generations nor words; the low
// 16 bits of the last four are small.
var farInts = []int{math.MinInt, math.MinInt + 1, -65536, -24, -2, -1, 65536, 65537, 1 << 32, 1<<32 + 1, math.MaxInt - 1, math.MaxInt}

// cellAs returns a used cell.
func cellAs(gen, n int) impl.Cell { return impl.Cell{Gen: gen, Used: true, N: n} }

// spareCell is what roomyCells puts into the spare capacity.
var spareCell = cellAs(77, 78)

// mixedCells returns 24 cells of which those are used whose bit is set. All have
// different generations, and the used ones different words.
func mixedCells(used int) []impl.Cell {
	var out []impl.Cell
	for i := range 24 {
		c := impl.Cell{Gen: i * 43}
		if used>>i&1 == 1 {
			c = cellAs(i*43, 65535-i*i)
		}
		out = append(out, c)
	}
	return out
}

const allUsed = 1<<24 - 1

// somePatterns returns which cells are used in many lists: every choice of the
// first 10 cells, of the last 10 and of 10 in between, with none or all of the
// others; and one cell and all but one.
func somePatterns() []int {
	var out []int
	for bits := range 1 << 10 {
		for _, shift := range []int{0, 7, 14} {
			out = append(out, bits<<shift, allUsed&^(bits<<shift))
		}
	}
	for i := range 24 {
		out = append(out, 1<<i, allUsed&^(1<<i))
	}
	return out
}

// withCell returns a copy of l with another cell at index i.
func withCell(l []impl.Cell, i int, c impl.Cell) []impl.Cell {
	out := slices.Clone(l)
	out[i] = c
	return out
}

// badCells returns a cell for each reason why a cell is not valid.
func badCells() map[string]impl.Cell {
	out := map[string]impl.Cell{
		"an unused cell with N 1":           {N: 1},
		"an unused cell with N 65535":       {Gen: 999, N: 65535},
		"an unused cell with N -1":          {Gen: 3, N: -1},
		"an unused cell with N 65536":       {N: 65536},
		"an unused cell with the least N":   {N: math.MinInt},
		"a Gen of -1":                       {Gen: -1},
		"a Gen of 1000":                     {Gen: 1000},
		"a used cell with a Gen of -1":      cellAs(-1, 5),
		"a used cell with a Gen of 1000":    cellAs(1000, 5),
		"a used cell with an N of -1":       cellAs(5, -1),
		"a used cell with an N of 65536":    cellAs(5, 65536),
		"a used cell in which nothing fits": cellAs(1000, 65536),
	}
	for _, n := range farInts {
		out[fmt.Sprint("a Gen of ", n)] = impl.Cell{Gen: n}
		out[fmt.Sprint("a used cell with a Gen of ", n)] = cellAs(n, 7)
		out[fmt.Sprint("a used cell with an N of ", n)] = cellAs(7, n)
	}
	return out
}

// invalidCells returns a list for each reason why a list is not valid. Most of
// them have used cells and unused ones.
func invalidCells() map[string][]impl.Cell {
	out := map[string][]impl.Cell{
		"nil":                    nil,
		"the empty list":         {},
		"one cell":               make([]impl.Cell, 1),
		"one used cell":          {cellAs(3, 4)},
		"23 cells":               mixedCells(0x5a5a5a)[:23],
		"23 unused cells":        make([]impl.Cell, 23),
		"25 cells":               append(mixedCells(0x5a5a5a), impl.Cell{}),
		"25 unused cells":        make([]impl.Cell, 25),
		"25 cells, all used":     append(mixedCells(allUsed), cellAs(8, 9)),
		"24 used, 1 unused cell": append(mixedCells(allUsed), impl.Cell{Gen: 8}),
		"48 cells":               slices.Concat(mixedCells(0), mixedCells(allUsed)),
	}
	for what, c := range badCells() {
		for _, i := range []int{0, 1, 23} {
			out[fmt.Sprint(what, " at ", i)] = withCell(mixedCells(0x33cc66), i, c)
		}
	}
	return out
}

// validCells states the invariants of chapter 9 in numbers.
func validCells(l []impl.Cell) bool {
	ok := len(l) == 24
	for _, c := range l {
		word := 0
		if c.Used {
			word = 65535
		}
		ok = ok && within(c.Gen, 0, 999) && within(c.N, 0, word)
	}
	return ok
}

// usedIn says what UsedCells returns.
func usedIn(l []impl.Cell) int {
	return len(slices.DeleteFunc(slices.Clone(l), func(c impl.Cell) bool { return !c.Used }))
}

// afterTake says what TakeCell returns, in the words of chapter 9.
func afterTake(l []impl.Cell, n int) ([]impl.Cell, int, bool) {
	if usedIn(l) == len(l) || !within(n, 0, 65535) || !validCells(l) {
		return l, 0, false
	}
	at := 0
	for l[at].Used {
		at++
	}
	return withCell(l, at, cellAs(l[at].Gen, n)), at, true
}

// afterFree says what FreeCell returns, in the words of chapter 9.
func afterFree(l []impl.Cell, i int) []impl.Cell {
	if !validCells(l) || !within(i, 0, 23) || !l[i].Used {
		return l
	}
	if l[i].Gen == 999 {
		return withCell(l, i, impl.Cell{})
	}
	return withCell(l, i, impl.Cell{Gen: l[i].Gen + 1})
}

// inCell says what CellAt returns, in the words of chapter 9.
func inCell(l []impl.Cell, i, gen int) (int, bool) {
	if !within(i, 0, len(l)-1) || l[i] != cellAs(gen, l[i].N) {
		return 0, false
	}
	return l[i].N, true
}

func expectCells(t *testing.T, what string, got, want []impl.Cell) {
	t.Helper()
	if !slices.Equal(got, want) {
		t.Errorf("%s: %v, want %v", what, got, want)
	}
}

func expectCellsOk(t *testing.T, what string, l []impl.Cell, want bool) {
	t.Helper()
	if got := impl.CellsOk(l); got != want || validCells(l) != want {
		t.Errorf("%s: CellsOk(%v) = %v, want %v", what, l, got, want)
	}
}

func expectTake(t *testing.T, what string, l []impl.Cell, n int, want []impl.Cell, at int) {
	t.Helper()
	if got, i, ok := impl.TakeCell(l, n); !slices.Equal(got, want) || i != at || !ok {
		t.Errorf("%s: TakeCell(%v, %d) = %v, %d, %v, want %v, %d, true", what, l, n, got, i, ok, want, at)
	}
}

func expectNoTake(t *testing.T, what string, l []impl.Cell, n int) {
	t.Helper()
	if got, i, ok := impl.TakeCell(l, n); !slices.Equal(got, l) || i != 0 || ok {
		t.Errorf("%s: TakeCell(%v, %d) = %v, %d, %v, want the same list, 0, false", what, l, n, got, i, ok)
	}
}

func expectFree(t *testing.T, what string, l []impl.Cell, i int, want []impl.Cell) {
	t.Helper()
	if got := impl.FreeCell(l, i); !slices.Equal(got, want) {
		t.Errorf("%s: FreeCell(%v, %d) = %v, want %v", what, l, i, got, want)
	}
}

func expectInCell(t *testing.T, what string, l []impl.Cell, i, gen, want int) {
	t.Helper()
	if n, ok := impl.CellAt(l, i, gen); n != want || !ok {
		t.Errorf("%s: CellAt(%v, %d, %d) = %d, %v, want %d, true", what, l, i, gen, n, ok, want)
	}
}

func expectNotInCell(t *testing.T, what string, l []impl.Cell, i, gen int) {
	t.Helper()
	if n, ok := impl.CellAt(l, i, gen); n != 0 || ok {
		t.Errorf("%s: CellAt(%v, %d, %d) = %d, %v, want 0, false", what, l, i, gen, n, ok)
	}
}

func expectUsed(t *testing.T, what string, l []impl.Cell, want int) {
	t.Helper()
	if got := impl.UsedCells(l); got != want {
		t.Errorf("%s: UsedCells(%v) = %d, want %d", what, l, got, want)
	}
}

// expectCellsAsWorded compares the calls for a list, valid or not, with the
// chapter's wording.
func expectCellsAsWorded(t *testing.T, what string, l []impl.Cell) {
	t.Helper()
	expectCellsOk(t, what, l, validCells(l))
	expectUsed(t, what, l, usedIn(l))
	for _, n := range []int{-1, 0, 7, 65535, 65536} {
		want, at, is := afterTake(l, n)
		if got, i, ok := impl.TakeCell(l, n); !slices.Equal(got, want) || i != at || ok != is {
			t.Fatalf("%s: TakeCell(%v, %d) = %v, %d, %v, want %v, %d, %v", what, l, n, got, i, ok, want, at, is)
		}
	}
	for i := -2; i <= len(l)+2; i++ {
		expectFree(t, what, l, i, afterFree(l, i))
		gens := []int{-1, 0, 1, 5, 999, 1000}
		if within(i, 0, len(l)-1) {
			gens = append(gens, l[i].Gen-1, l[i].Gen, l[i].Gen+1)
		}
		for _, gen := range gens {
			want, is := inCell(l, i, gen)
			if n, ok := impl.CellAt(l, i, gen); n != want || ok != is {
				t.Fatalf("%s: CellAt(%v, %d, %d) = %d, %v, want %d, %v", what, l, i, gen, n, ok, want, is)
			}
		}
	}
}

func TestCellConstants(t *testing.T) {
	if impl.MaxCells != 24 {
		t.Error("MaxCells has another value")
	}
}

func TestCellsNew(t *testing.T) {
	l := impl.CellsNew()
	expectCells(t, "CellsNew", l, make([]impl.Cell, 24))
	expectCellsOk(t, "CellsNew", l, true)
	expectUsed(t, "CellsNew", l, 0)
	for i := range 24 {
		expectNotInCell(t, "a new cell", l, i, 0)
	}
}

func TestCellsOkForEachLength(t *testing.T) {
	for n := range 60 {
		expectCellsOk(t, "unused cells", make([]impl.Cell, n), n == 24)
		expectCellsOk(t, "used cells", slices.Repeat([]impl.Cell{cellAs(999, 65535)}, n), n == 24)
	}
	expectCellsOk(t, "nil", nil, false)
	expectCellsOk(t, "the empty list", []impl.Cell{}, false)
}

func TestCellsOkForEachPattern(t *testing.T) {
	for _, used := range somePatterns() {
		expectCellsOk(t, "a valid list", mixedCells(used), true)
	}
}

func TestCellsOkAtTheLimits(t *testing.T) {
	for i := range 24 {
		for _, l := range [][]impl.Cell{impl.CellsNew(), mixedCells(allUsed), mixedCells(0x0f0f0f)} {
			for _, gen := range []int{0, 1, 500, 998, 999} {
				expectCellsOk(t, "an unused cell", withCell(l, i, impl.Cell{Gen: gen}), true)
				for _, n := range []int{0, 1, 255, 256, 65534, 65535} {
					expectCellsOk(t, "a used cell", withCell(l, i, cellAs(gen, n)), true)
				}
			}
			for what, c := range badCells() {
				expectCellsOk(t, what, withCell(l, i, c), false)
			}
		}
	}
	for what, l := range invalidCells() {
		expectCellsOk(t, what, l, false)
	}
}

func TestCellsOkStopsAtTheLength(t *testing.T) {
	bad := impl.Cell{Gen: -1, N: 3}
	expectCellsOk(t, "a spare invalid cell", append(mixedCells(6), bad)[:24], true)
	expectCellsOk(t, "a spare cell", mixedCells(6)[:23], false)
	expectUsed(t, "a spare used cell", append(mixedCells(6), cellAs(1, 1))[:24], 2)
	expectUsed(t, "a spare used cell", mixedCells(7)[:2], 2)
	expectNotInCell(t, "a spare used cell", append(mixedCells(6), cellAs(1, 1))[:24], 24, 1)
	expectNotInCell(t, "a spare used cell", mixedCells(allUsed)[:23], 23, 23*43)
	expectNoTake(t, "a spare unused cell", append(mixedCells(allUsed), impl.Cell{})[:24], 1)
	expectNoTake(t, "a spare unused cell", mixedCells(0)[:23], 1)
}

func TestTakeCellFillsAllCells(t *testing.T) {
	l := impl.CellsNew()
	want := make([]impl.Cell, 24)
	for i := range 24 {
		want[i] = cellAs(0, 100*i)
		next, at, ok := impl.TakeCell(l, 100*i)
		if at != i || !ok {
			t.Fatalf("TakeCell(%v, %d) takes %d, %v", l, 100*i, at, ok)
		}
		l = next
		expectCells(t, "TakeCell", l, want)
		expectCellsOk(t, "TakeCell", l, true)
		expectUsed(t, "TakeCell", l, i+1)
		for j := range 24 {
			if j <= i {
				expectInCell(t, "a cell that was taken", l, j, 0, 100*j)
			} else {
				expectNotInCell(t, "a cell that was not taken", l, j, 0)
			}
		}
	}
	for _, n := range []int{0, 1, 65535, -1, 65536} {
		expectNoTake(t, "all cells used", l, n)
	}
}

func TestTakeCellTakesTheFirstUnusedOne(t *testing.T) {
	for first := range 24 {
		below := 1<<first - 1
		for _, above := range []int{0, allUsed, 0x555555, 0xaaaaaa, 1 << 23} {
			used := below | above&^(below|1<<first)
			l := mixedCells(used)
			expectTake(t, "an unused cell", l, 4321, withCell(l, first, cellAs(first*43, 4321)), first)
		}
	}
	for _, used := range somePatterns() {
		l := mixedCells(used)
		want, at, ok := afterTake(l, 9)
		if ok != (used != allUsed) {
			t.Fatalf("a cell of %v is taken: %v", l, ok)
		}
		if ok {
			expectTake(t, "an unused cell", l, 9, want, at)
		} else {
			expectNoTake(t, "all cells used", l, 9)
		}
	}
}

func TestTakeCellStoresEachWord(t *testing.T) {
	l := mixedCells(0x00000b)
	for n := range 65536 {
		out, i, ok := impl.TakeCell(l, n)
		if i != 2 || !ok || out[2] != cellAs(86, n) {
			t.Fatalf("TakeCell(%v, %d) = %v, %d, %v", l, n, out, i, ok)
		}
		if got, ok := impl.CellAt(out, 2, 86); got != n || !ok {
			t.Fatalf("CellAt of the word %d = %d, %v", n, got, ok)
		}
	}
	for _, n := range farInts {
		expectNoTake(t, "no word", l, n)
		expectNoTake(t, "no word", impl.CellsNew(), n)
		expectNoTake(t, "no word, all cells used", mixedCells(allUsed), n)
	}
}

func TestTakeCellKeepsEachGeneration(t *testing.T) {
	for gen := range 1000 {
		l := withCell(mixedCells(0x3fffff), 22, impl.Cell{Gen: gen})
		expectTake(t, "an unused cell", l, 11, withCell(l, 22, cellAs(gen, 11)), 22)
	}
}

func TestTakeCellOfInvalidLists(t *testing.T) {
	for what, l := range invalidCells() {
		for _, n := range []int{0, 1, 65535, -1, 65536} {
			expectNoTake(t, what, l, n)
		}
	}
}

func TestFreeCellOfEachCell(t *testing.T) {
	for _, used := range somePatterns() {
		l := mixedCells(used)
		for i := range 24 {
			want := l
			if used>>i&1 == 1 {
				want = withCell(l, i, impl.Cell{Gen: i*43 + 1})
			}
			expectFree(t, "a cell", l, i, want)
		}
	}
}

func TestFreeCellOfEachGeneration(t *testing.T) {
	for _, i := range []int{0, 1, 11, 23} {
		for gen := range 1000 {
			next := gen + 1
			if gen == 999 {
				next = 0
			}
			for _, n := range []int{0, 1, 65535} {
				l := withCell(mixedCells(0x123456), i, cellAs(gen, n))
				want := withCell(l, i, impl.Cell{Gen: next})
				expectFree(t, "a used cell", l, i, want)
				expectFree(t, "a cell that was freed", want, i, want)
				expectCellsOk(t, "a cell that was freed", want, true)
			}
			l := withCell(mixedCells(0x123456), i, impl.Cell{Gen: gen})
			expectFree(t, "an unused cell", l, i, l)
		}
	}
}

func TestGenerationsWrapAround(t *testing.T) {
	l := withCell(impl.CellsNew(), 0, cellAs(998, 5))
	for _, gen := range []int{999, 0, 1} {
		l = impl.FreeCell(l, 0)
		expectCells(t, "freed", l, withCell(impl.CellsNew(), 0, impl.Cell{Gen: gen}))
		next, i, ok := impl.TakeCell(l, 6)
		if i != 0 || !ok {
			t.Fatalf("TakeCell(%v, 6) takes %d, %v", l, i, ok)
		}
		l = next
		expectCells(t, "taken again", l, withCell(impl.CellsNew(), 0, cellAs(gen, 6)))
		for other := -1; other <= 1000; other++ {
			if other == gen {
				expectInCell(t, "its own generation", l, 0, gen, 6)
			} else {
				expectNotInCell(t, "another generation", l, 0, other)
			}
		}
	}
}

func TestFreeCellOfNoCell(t *testing.T) {
	for _, l := range [][]impl.Cell{impl.CellsNew(), mixedCells(allUsed), mixedCells(0x800001)} {
		for _, i := range append(farInts, 24, 25, 47, 48) {
			expectFree(t, "an index out of range", l, i, l)
		}
	}
	for what, l := range invalidCells() {
		for i := -2; i <= 50; i++ {
			expectFree(t, what, l, i, l)
		}
		for _, i := range farInts {
			expectFree(t, what, l, i, l)
		}
	}
}

func TestCellAtComparesTheGeneration(t *testing.T) {
	for _, gen := range []int{0, 1, 2, 499, 500, 998, 999} {
		for i := range 24 {
			l := withCell(mixedCells(0x5f5f5f), i, cellAs(gen, 77))
			expectInCell(t, "its own generation", l, i, gen, 77)
			others := append(farInts, gen-1, gen+1, gen-1000, gen+1000, gen+65536, 1000)
			for _, other := range others {
				expectNotInCell(t, "another generation", l, i, other)
			}
			if gen != 0 && gen != 999 {
				expectNotInCell(t, "the first generation", l, i, 0)
				expectNotInCell(t, "the last generation", l, i, 999)
			}
		}
	}
	// A word of 0 is there as well.
	expectInCell(t, "the word 0", withCell(mixedCells(0), 5, cellAs(3, 0)), 5, 3, 0)
	expectInCell(t, "the word 65535", withCell(mixedCells(0), 5, cellAs(999, 65535)), 5, 999, 65535)
}

func TestCellAtOfUnusedCells(t *testing.T) {
	for i := range 24 {
		for _, gen := range []int{0, 1, 43, 998, 999} {
			l := withCell(mixedCells(allUsed), i, impl.Cell{Gen: gen})
			for other := -1; other <= 1000; other++ {
				expectNotInCell(t, "an unused cell", l, i, other)
			}
		}
	}
}

func TestCellAtOfNoCell(t *testing.T) {
	for _, l := range [][]impl.Cell{impl.CellsNew(), slices.Repeat([]impl.Cell{cellAs(0, 8)}, 24), mixedCells(allUsed)} {
		for _, i := range append(farInts, 24, 25, 47, 48) {
			for _, gen := range []int{-1, 0, 1, 43, 999, 1000} {
				expectNotInCell(t, "an index out of range", l, i, gen)
			}
		}
	}
}

func TestUsedCells(t *testing.T) {
	for _, used := range somePatterns() {
		count := 0
		for i := range 24 {
			count += used >> i & 1
		}
		expectUsed(t, "a valid list", mixedCells(used), count)
	}
	expectUsed(t, "words of 0", slices.Repeat([]impl.Cell{cellAs(0, 0)}, 24), 24)
	expectUsed(t, "late generations", slices.Repeat([]impl.Cell{{Gen: 999}}, 24), 0)
}

// TestLookupInInvalidCells checks CellAt and UsedCells, for which the chapter
// states no precondition, and the other calls along with them.
func TestLookupInInvalidCells(t *testing.T) {
	for what, l := range invalidCells() {
		expectCellsAsWorded(t, what, l)
	}
	expectUsed(t, "nil", nil, 0)
	expectUsed(t, "the empty list", []impl.Cell{}, 0)
	expectUsed(t, "25 used cells", invalidCells()["25 cells, all used"], 25)
	expectUsed(t, "one used cell", []impl.Cell{cellAs(3, 4)}, 1)
	expectUsed(t, "an unused cell with a word", []impl.Cell{{N: 4}}, 0)
	expectInCell(t, "one used cell", []impl.Cell{cellAs(3, 4)}, 0, 3, 4)
	expectInCell(t, "25 used cells", invalidCells()["25 cells, all used"], 24, 8, 9)
	expectNotInCell(t, "an unused cell with a word", []impl.Cell{{N: 4}}, 0, 0)
	expectInCell(t, "a Gen of 1000", []impl.Cell{cellAs(1000, 4)}, 0, 1000, 4)
	expectInCell(t, "a Gen of -1", []impl.Cell{cellAs(-1, 4)}, 0, -1, 4)
	expectInCell(t, "no word", []impl.Cell{cellAs(3, -4)}, 0, 3, -4)
	for _, i := range append(farInts, 0, 1, 23, 24) {
		for _, gen := range []int{-1, 0, 1, 999} {
			expectNotInCell(t, "nil", nil, i, gen)
			expectNotInCell(t, "the empty list", []impl.Cell{}, i, gen)
		}
	}
}

func TestCellsAsWorded(t *testing.T) {
	for used := 0; used <= allUsed; used += 39119 {
		expectCellsAsWorded(t, "a valid list", mixedCells(used))
	}
	expectCellsAsWorded(t, "all cells used", mixedCells(allUsed))
}

// TestGenerationsReturnAfterAllOthers frees and takes one cell until its
// generation is again what it was: until then a reference from the beginning
// stays stale.
func TestGenerationsReturnAfterAllOthers(t *testing.T) {
	for _, i := range []int{0, 7, 23} {
		for _, first := range []int{0, 1, 500, 998, 999} {
			l := withCell(mixedCells(allUsed), i, cellAs(first, 1))
			for times := 1; times <= 1000; times++ {
				gen := l[i].Gen
				l = impl.FreeCell(l, i)
				expectNotInCell(t, "freed, the old generation", l, i, gen)
				expectNotInCell(t, "freed, the new generation", l, i, l[i].Gen)
				expectNotInCell(t, "freed, the first generation", l, i, first)
				next, at, ok := impl.TakeCell(l, times)
				if at != i || !ok {
					t.Fatalf("TakeCell(%v, %d) takes %d, %v", l, times, at, ok)
				}
				l = next
				expectNotInCell(t, "taken again, the old generation", l, i, gen)
				expectInCell(t, "taken again, the new generation", l, i, (first+times)%1000, times)
				if times < 1000 {
					expectNotInCell(t, "taken again, the first generation", l, i, first)
				}
			}
			expectCells(t, "after 1000 times", l, withCell(mixedCells(allUsed), i, cellAs(first, 1000)))
		}
	}
}

// cellRef is a reference to a cell: how often it was freed before tells whether
// it is stale.
type cellRef struct{ cell, gen, n, freed int }

// expectRefs expects that a reference gives its word if the cell was not freed
// since, and nothing if it was, unless all generations have passed.
func expectRefs(t *testing.T, l []impl.Cell, live map[int]cellRef, old []cellRef, frees [24]int) {
	t.Helper()
	for i, r := range live {
		expectInCell(t, "a reference", l, i, r.gen, r.n)
	}
	for _, r := range old {
		if frees[r.cell]-r.freed < 1000 {
			expectNotInCell(t, "a stale reference", l, r.cell, r.gen)
		}
	}
}

// TestWalkThroughCells takes and frees cells: phases in which most are used
// alternate with phases in which few are. The generations start near the end.
func TestWalkThroughCells(t *testing.T) {
	l := impl.CellsNew()
	for i := range l {
		l[i].Gen = 990 + i%10
	}
	seed := uint32(31)
	next := func(limit int) int {
		seed = seed*1664525 + 1013904223
		return int(seed>>8) % limit
	}
	live, old, frees := map[int]cellRef{}, []cellRef{}, [24]int{}
	full, empty, wrapped := 0, 0, 0
	for step := range 6000 {
		i, n := next(26)-1, next(65540)-2
		if step/200%2 == next(16)/15 {
			want, at, is := afterTake(l, n)
			got, at2, ok := impl.TakeCell(l, n)
			if !slices.Equal(got, want) || at2 != at || ok != is {
				t.Fatalf("TakeCell(%v, %d) = %v, %d, %v, want %v, %d, %v", l, n, got, at2, ok, want, at, is)
			}
			if l = got; ok {
				live[at] = cellRef{at, l[at].Gen, n, frees[at]}
			}
		} else {
			want := afterFree(l, i)
			expectFree(t, "a cell", l, i, want)
			if r, ok := live[i]; ok {
				frees[i]++
				old = append(old, r)
				delete(live, i)
			}
			l = impl.FreeCell(l, i)
		}
		expectCellsOk(t, "the walk", l, true)
		expectUsed(t, "the walk", l, len(live))
		if step%20 == 0 {
			expectRefs(t, l, live, old, frees)
		}
		if len(live) == 24 {
			full++
		} else if len(live) == 0 {
			empty++
		}
	}
	for _, n := range frees {
		if n >= 10 {
			wrapped++
		}
	}
	if full == 0 || empty == 0 || wrapped < 24 {
		t.Errorf("%d full lists, %d empty ones, %d wrapped cells: the walk is too short", full, empty, wrapped)
	}
}

// roomyCells returns a copy of l with spare capacity that holds two cells.
func roomyCells(l []impl.Cell) []impl.Cell {
	return slices.Concat(l, []impl.Cell{spareCell, spareCell})[:len(l)]
}

// expectWholeCells expects that l, which roomyCells made of old, has not
// changed, its spare capacity included.
func expectWholeCells(t *testing.T, what string, l, old []impl.Cell) {
	t.Helper()
	expectCells(t, what, l[:len(l)+2], slices.Concat(old, []impl.Cell{spareCell, spareCell}))
}

// cellCalls returns calls of chapter 9 that return lists, successful ones and
// failing ones.
func cellCalls() []func(l []impl.Cell) []impl.Cell {
	var out []func(l []impl.Cell) []impl.Cell
	for _, n := range []int{-1, 0, 65535, 65536} {
		out = append(out, func(l []impl.Cell) []impl.Cell {
			x, _, _ := impl.TakeCell(l, n)
			return x
		})
	}
	for i := -1; i <= 26; i++ {
		out = append(out, func(l []impl.Cell) []impl.Cell { return impl.FreeCell(l, i) })
	}
	return out
}

func sharingCells() [][]impl.Cell {
	out := [][]impl.Cell{impl.CellsNew(), mixedCells(0), mixedCells(1), mixedCells(0x5a5a5a), mixedCells(allUsed &^ (1 << 23)), mixedCells(allUsed)}
	for _, l := range invalidCells() {
		out = append(out, l)
	}
	return out
}

func TestCellsShareNoMemory(t *testing.T) {
	scratched := impl.Cell{Gen: -7, Used: true, N: -7}
	for _, old := range sharingCells() {
		for _, call := range cellCalls() {
			l := roomyCells(old)
			out := call(l)
			want := slices.Clone(out)
			expectWholeCells(t, "the argument", l, old)
			fill(call(l), scratched)
			expectWholeCells(t, "the argument after a change of another result", l, old)
			expectCells(t, "the result after a change of another result", out, want)
			fill(l, scratched)
			expectCells(t, "the result after a change of the argument", out, want)
		}
	}
}

func TestCellLookupChangesNoArgument(t *testing.T) {
	for _, old := range sharingCells() {
		l := roomyCells(old)
		impl.CellsOk(l)
		impl.UsedCells(l)
		for i := -1; i <= 26; i++ {
			impl.CellAt(l, i, 0)
			impl.CellAt(l, i, i*43)
		}
		expectWholeCells(t, "the argument", l, old)
	}
}

func TestNewCellsShareNoMemory(t *testing.T) {
	a, b := impl.CellsNew(), impl.CellsNew()
	fill(a, cellAs(5, 5))
	expectCells(t, "a new list after a change of another one", b, make([]impl.Cell, 24))
	expectCells(t, "a list made later", impl.CellsNew(), make([]impl.Cell, 24))
}
