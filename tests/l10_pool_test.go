package tests

import (
	"cmp"
	"fmt"
	"math"
	"regexp"
	"slices"
	"strings"
	"testing"

	"loop.example/g00467/impl"
)

// refTo returns a key that refers to a cell.
func refTo(blk, age, cell, gen int) impl.Key {
	return impl.Key{Blk: blk, Age: age, Kind: impl.KData, Cell: cell, Gen: gen}
}

// volAs returns a volume that may be written.
func volAs(name string, age, size int) impl.Vol {
	return impl.Vol{Name: name, Age: age, Size: size}
}

// richPool returns a valid pool. The versions 2 and 3 are children of 1, and 6
// and 7 of 2; 4 and 9 have no relations. A newer layer hides a key that refers
// to the unused cell 20, and a deletion is left of the version 10, which does
// not exist, over a key that refers to the unused cell 21.
func richPool() impl.Pool {
	cells := make([]impl.Cell, 24)
	for i := range cells {
		cells[i].Gen = 41 * i
	}
	for i, n := range map[int]int{0: 65535, 3: 100, 4: 9, 5: 55, 6: 77, 7: 42, 8: 31, 9: 32, 23: 7} {
		cells[i] = cellAs(41*i, n)
	}
	cells[7].Gen = 999
	return impl.Pool{
		T: treeOf(
			nodeOf(
				[]impl.Key{refTo(0, 1, 20, 820), refTo(0, 4, 8, 328), goneKey(0, 6), refTo(1, 2, 0, 0)},
				[]impl.Key{refTo(0, 1, 3, 123), refTo(1, 4, 9, 369), refTo(1, 6, 7, 999)}),
			nodeOf(
				[]impl.Key{refTo(2, 3, 23, 943), goneKey(3, 1), refTo(3, 7, 4, 164), refTo(4, 10, 21, 861)},
				[]impl.Key{noneKey(4, 10), refTo(5, 2, 5, 205), refTo(11, 3, 6, 246)})),
		Ages:  agesOf(1, 0, 2, 1, 3, 1, 4, 0, 6, 2, 7, 2, 9, 0),
		Cells: cells,
		Vols:  []impl.Vol{volAs("a", 6, 4), {Name: "b1", Age: 7, Size: 4, Fixed: true}, volAs("c", 3, 12), volAs("d", 4, 1)},
		Next:  12,
	}
}

// volsPool returns a valid pool with n volumes and as many versions.
func volsPool(n int) impl.Pool {
	p := impl.Pool{T: impl.TreeNew(), Ages: rootsOf(n), Cells: mixedCells(0), Next: n + 1}
	for i := range n {
		p.Vols = append(p.Vols, volAs(string(rune('b'+2*i)), i+1, i+1))
	}
	return p
}

// agesPool returns a pool with n versions, each the parent of the next one, of
// which the last has a volume.
func agesPool(n int) impl.Pool {
	p := impl.Pool{T: impl.TreeNew(), Ages: chainOf(1, n), Cells: mixedCells(0), Next: 3*n - 1}
	p.Vols = []impl.Vol{volAs("v", 3*n-2, 12)}
	return p
}

// cellsPool returns a pool whose first n cells are used: by two volumes with a
// common parent, block by block.
func cellsPool(t *testing.T, n int) impl.Pool {
	t.Helper()
	p := impl.Pool{Ages: agesOf(1, 0, 2, 1, 3, 1), Cells: mixedCells(1<<n - 1), Next: 4}
	var keys []impl.Key
	for i := range n {
		keys = append(keys, refTo(i/2, 2+i%2, i, 43*i))
	}
	p.T = grown(t, keys...)
	p.Vols = []impl.Vol{volAs("a", 2, 12), volAs("b", 3, 12)}
	return p
}

// keysPool returns a pool with n keys of kind KGone, for the blocks of five
// volumes.
func keysPool(t *testing.T, n int) impl.Pool {
	t.Helper()
	p := volsPool(5)
	for i := range p.Vols {
		p.Vols[i].Size = 12
	}
	for i := range n {
		tr, ok := impl.TreePut(p.T, goneKey(i/5, 1+i%5))
		if !ok {
			t.Fatalf("the tree has no room for %d keys", n)
		}
		p.T = tr
	}
	return p
}

// hiddenPool returns a pool with n keys. The volumes a and b both inherit the
// blocks 1, 4 and 9, which hold 100 times their number; the other keys are of
// kind KGone, for the blocks of five other versions.
func hiddenPool(t *testing.T, n int) impl.Pool {
	t.Helper()
	p := impl.Pool{Ages: agesOf(1, 0, 2, 1, 3, 1, 4, 0, 5, 0, 6, 0, 7, 0, 8, 0), Cells: mixedCells(0), Next: 9}
	p.Vols = []impl.Vol{volAs("a", 2, 12), volAs("b", 3, 12)}
	var keys []impl.Key
	for _, blk := range []int{1, 4, 9} {
		p.Cells[blk] = cellAs(0, 100*blk)
		keys = append(keys, refTo(blk, 1, blk, 0))
	}
	for i := range n - len(keys) {
		keys = append(keys, goneKey(i/5, 4+i%5))
	}
	p.T = grown(t, keys...)
	return p
}

// nodesPool returns a pool whose tree has n nodes: the first one is full, and
// the others have two keys each.
func nodesPool(n int) impl.Pool {
	p := volsPool(5)
	keys := []impl.Key{goneKey(0, 1), goneKey(0, 2), goneKey(0, 4)}
	for i := 4; i < 12*5; i++ {
		keys = append(keys, goneKey(i/5, 1+i%5))
	}
	nodes := []impl.Node{nodeOf(keys[:8:8])}
	for keys = keys[8:]; len(nodes) < n; keys = keys[2:] {
		nodes = append(nodes, nodeOf(keys[:2:2]))
	}
	p.T = treeOf(nodes...)
	return p
}

// lastPool returns a pool with this Next, with one volume if there is an Id
// below.
func lastPool(next int) impl.Pool {
	p := impl.PoolNew()
	p.Next = next
	if next > 1 {
		p.Ages, p.Vols = agesOf(next-1, 0), []impl.Vol{volAs("z", next-1, 12)}
	}
	return p
}

// soundPools returns valid pools, at all limits.
func soundPools(t *testing.T) map[string]impl.Pool {
	t.Helper()
	out := map[string]impl.Pool{"a new pool": impl.PoolNew(), "a rich pool": richPool(), "a pool with one version": lastPool(2)}
	for _, n := range []int{1, 5, 6} {
		out[fmt.Sprint(n, " volumes")] = volsPool(n)
	}
	for _, n := range []int{1, 13, 14, 15, 16} {
		out[fmt.Sprint(n, " versions")] = agesPool(n)
	}
	for _, n := range []int{1, 23, 24} {
		out[fmt.Sprint(n, " used cells")] = cellsPool(t, n)
	}
	for _, n := range []int{1, 59, 60} {
		out[fmt.Sprint(n, " keys")] = keysPool(t, n)
	}
	for _, n := range []int{3, 58, 59, 60} {
		out[fmt.Sprint(n, " keys, three of them inherited")] = hiddenPool(t, n)
	}
	for _, n := range []int{1, 19, 20} {
		out[fmt.Sprint(n, " nodes")] = nodesPool(n)
	}
	for _, next := range []int{58, 59, 60, 61} {
		out[fmt.Sprint("a Next of ", next)] = lastPool(next)
	}
	return out
}

func deepPool(p impl.Pool) impl.Pool {
	return impl.Pool{T: deepTree(p.T), Ages: slices.Clone(p.Ages), Cells: slices.Clone(p.Cells), Vols: slices.Clone(p.Vols), Next: p.Next}
}

func samePool(a, b impl.Pool) bool {
	return sameTree(a.T, b.T) && slices.Equal(a.Ages, b.Ages) && slices.Equal(a.Cells, b.Cells) && slices.Equal(a.Vols, b.Vols) && a.Next == b.Next
}

var nameForm = regexp.MustCompile(`\A[a-z0-9]{1,6}\z`)

func validName(s string) bool { return nameForm.MatchString(s) }

// validVols states the second group of invariants of chapter 10.
func validVols(p impl.Pool) bool {
	ok, last, taken := len(p.Vols) <= 6, "", map[int]bool{}
	for _, v := range p.Vols {
		ok = ok && validName(v.Name) && v.Name > last && within(v.Size, 1, 12)
		ok = ok && firstWith(p.Ages, v.Age) >= 0 && len(childrenOf(p.Ages, v.Age)) == 0 && !taken[v.Age]
		last, taken[v.Age] = v.Name, true
	}
	return ok
}

// validPool states the invariants of chapter 10: for each cell, it counts the
// keys.
func validPool(p impl.Pool) bool {
	ok := validTree(p.T) && validAges(p.Ages) && validCells(p.Cells) && within(p.Next, 1, 61) && validVols(p)
	for _, a := range p.Ages {
		ok = ok && a.Id < p.Next
	}
	refs := map[[2]int]int{}
	for _, k := range liveTreeKeys(p.T) {
		ok = ok && firstWith(p.Ages, k.Age) >= 0
		if k.Kind == impl.KData {
			refs[[2]int{k.Cell, k.Gen}]++
		}
	}
	for i, c := range p.Cells {
		if c.Used {
			ok = ok && refs[[2]int{i, c.Gen}] == 1
			delete(refs, [2]int{i, c.Gen})
		}
	}
	return ok && len(refs) == 0
}

// volNamed says what VolAt returns.
func volNamed(p impl.Pool, name string) int {
	return slices.IndexFunc(p.Vols, func(v impl.Vol) bool { return v.Name == name })
}

// blockIn says what BlockOf returns, in the words of chapter 10.
func blockIn(p impl.Pool, i, blk int) int {
	if !within(i, 0, len(p.Vols)-1) || blk < 0 || blk >= p.Vols[i].Size {
		return 0
	}
	path := wayUp(p.Ages, p.Vols[i].Age, len(p.Ages)+1)
	k, ok := greatestOn(liveTreeKeys(p.T), path, blk)
	if !ok || k.Kind != impl.KData {
		return 0
	}
	n, _ := inCell(p.Cells, k.Cell, k.Gen)
	return n
}

func expectPool(t *testing.T, what string, got, want impl.Pool) {
	t.Helper()
	if !samePool(got, want) {
		t.Errorf("%s: %v, want %v", what, got, want)
	}
}

func expectPoolOk(t *testing.T, what string, p impl.Pool, want bool) {
	t.Helper()
	if got := impl.PoolOk(p); got != want || validPool(p) != want {
		t.Errorf("%s: PoolOk(%v) = %v, want %v", what, p, got, want)
	}
}

func expectVolAt(t *testing.T, what string, p impl.Pool, name string, want int) {
	t.Helper()
	if got := impl.VolAt(p, name); got != want {
		t.Errorf("%s: VolAt(%v, %q) = %d, want %d", what, p.Vols, name, got, want)
	}
}

func expectIdle(t *testing.T, what string, p impl.Pool, id int, want bool) {
	t.Helper()
	if got := impl.Idle(p, id); got != want {
		t.Errorf("%s: Idle(%v, %d) = %v, want %v", what, p.Vols, id, got, want)
	}
}

func expectBlock(t *testing.T, what string, p impl.Pool, i, blk, want int) {
	t.Helper()
	if got := impl.BlockOf(p, i, blk); got != want {
		t.Errorf("%s: BlockOf(%v, %d, %d) = %d, want %d", what, p, i, blk, got, want)
	}
}

// expectLookups compares all lookups in a pool, valid or not, with the chapter's
// wording.
func expectLookups(t *testing.T, what string, p impl.Pool) {
	t.Helper()
	names, ids := []string{"", "a", "b1", "c", "zzzzzz", "abcdefg"}, []int{-1, 0, 61, math.MinInt, math.MaxInt}
	for _, v := range p.Vols {
		names, ids = append(names, v.Name), append(ids, v.Age)
	}
	for _, a := range p.Ages {
		ids = append(ids, a.Id)
	}
	for _, name := range names {
		expectVolAt(t, what, p, name, volNamed(p, name))
	}
	for _, id := range ids {
		used := slices.ContainsFunc(p.Vols, func(v impl.Vol) bool { return v.Age == id })
		expectIdle(t, what, p, id, !used)
	}
	for i := -2; i < len(p.Vols)+2; i++ {
		for blk := -2; blk < 18; blk++ {
			expectBlock(t, what, p, i, blk, blockIn(p, i, blk))
		}
	}
}

// spoilers returns changes of richPool, one or more for each reason why a pool
// is not valid.
func spoilers() map[string]func(p *impl.Pool) {
	out := map[string]func(p *impl.Pool){
		"everything is gone":                func(p *impl.Pool) { *p = impl.Pool{} },
		"a Next of 0":                       func(p *impl.Pool) { p.Next = 0 },
		"a Next of 1":                       func(p *impl.Pool) { p.Next = 1 },
		"a Next of the last Id":             func(p *impl.Pool) { p.Next = 9 },
		"a Next below the last Id":          func(p *impl.Pool) { p.Next = 8 },
		"a Next of MaxAge+2":                func(p *impl.Pool) { p.Next = 62 },
		"a negative Next":                   func(p *impl.Pool) { p.Next = -12 },
		"the least Next":                    func(p *impl.Pool) { p.Next = math.MinInt },
		"the greatest Next":                 func(p *impl.Pool) { p.Next = math.MaxInt },
		"volumes not in order":              func(p *impl.Pool) { p.Vols[0], p.Vols[1] = p.Vols[1], p.Vols[0] },
		"equal names":                       func(p *impl.Pool) { p.Vols[1].Name = "a" },
		"equal volumes":                     func(p *impl.Pool) { p.Vols[1] = p.Vols[0] },
		"a version that does not exist":     func(p *impl.Pool) { p.Vols[0].Age = 8 },
		"a version of Next":                 func(p *impl.Pool) { p.Vols[0].Age = 12 },
		"the version 0":                     func(p *impl.Pool) { p.Vols[0].Age = 0 },
		"a version with two children":       func(p *impl.Pool) { p.Vols[0].Age = 2 },
		"a version with one child":          func(p *impl.Pool) { p.Ages = append(p.Ages, impl.Age{Id: 10, From: 4}) },
		"the version of another volume":     func(p *impl.Pool) { p.Vols[3].Age = 3 },
		"the version of the first volume":   func(p *impl.Pool) { p.Vols[1].Age = 6 },
		"a key of kind KData of no version": func(p *impl.Pool) { p.T.Nodes[1].Sets[1][2].Age = 5 },
		"a key of kind KGone of no version": func(p *impl.Pool) { p.T.Nodes[0].Sets[0][2].Age = 5 },
		"the version of a key is gone":      func(p *impl.Pool) { p.Ages = slices.Delete(p.Ages, 2, 3); p.Vols = slices.Delete(p.Vols, 2, 3) },
		"a used cell without a key":         func(p *impl.Pool) { p.Cells[20].Used = true },
		"two used cells without keys":       func(p *impl.Pool) { p.Cells[20].Used, p.Cells[21].Used = true, true },
		"a used cell of a deleted key":      func(p *impl.Pool) { p.T.Nodes[1].Sets[1][1] = noneKey(5, 2) },
		"two keys of one cell":              func(p *impl.Pool) { p.T.Nodes[0].Sets[1][0] = refTo(0, 1, 8, 328) },
		"two keys of one, another is free":  func(p *impl.Pool) { p.T.Nodes[0].Sets[1][0] = refTo(0, 1, 8, 328); p.Cells[3] = impl.Cell{} },
		"two keys of neighbouring nodes":    func(p *impl.Pool) { p.T.Nodes[1].Sets[1][1] = refTo(5, 2, 8, 328) },
		"a key instead of KGone":            func(p *impl.Pool) { p.T.Nodes[0].Sets[0][2] = refTo(0, 6, 8, 328) },
		"a key of an unused cell":           func(p *impl.Pool) { p.T.Nodes[0].Sets[0][2] = refTo(0, 6, 20, 820) },
		"a key of another unused cell":      func(p *impl.Pool) { p.T.Nodes[0].Sets[1][0] = refTo(0, 1, 20, 820); p.Cells[3] = impl.Cell{} },
		"a key without a cell":              func(p *impl.Pool) { p.T.Nodes[0].Sets[1][0] = refTo(0, 1, 24, 123) },
		"a key of the cell -1":              func(p *impl.Pool) { p.T.Nodes[0].Sets[1][0] = refTo(0, 1, -1, 123) },
		"a key of a later generation":       func(p *impl.Pool) { p.T.Nodes[0].Sets[1][0].Gen++ },
		"a key of an earlier generation":    func(p *impl.Pool) { p.T.Nodes[0].Sets[1][0].Gen-- },
		"the layers in another order":       func(p *impl.Pool) { slices.Reverse(p.T.Nodes[0].Sets) },
		"a lost layer":                      func(p *impl.Pool) { p.T.Nodes[1].Sets = p.T.Nodes[1].Sets[:1] },
		"no keys":                           func(p *impl.Pool) { p.T = impl.TreeNew() },
		"no nodes":                          func(p *impl.Pool) { p.T = impl.Tree{} },
		"no versions":                       func(p *impl.Pool) { p.Ages = nil },
		"no cells":                          func(p *impl.Pool) { p.Cells = nil },
		"new cells":                         func(p *impl.Pool) { p.Cells = impl.CellsNew() },
		"a bound that is no key's":          func(p *impl.Pool) { p.T.Lows[1]++ },
		"a kind that does not exist":        func(p *impl.Pool) { p.T.Nodes[1].Sets[0][1].Kind = 3 },
	}
	for i, tr := range messyTrees() {
		out[fmt.Sprint("the messy tree ", i)] = func(p *impl.Pool) { p.T = deepTree(tr) }
	}
	for what, l := range invalidAges() {
		out["versions: "+what] = func(p *impl.Pool) { p.Ages = slices.Clone(l) }
		out["versions without volumes: "+what] = func(p *impl.Pool) { *p = impl.PoolNew(); p.Ages, p.Next = slices.Clone(l), 61 }
	}
	for what, l := range invalidCells() {
		out["cells: "+what] = func(p *impl.Pool) { p.Cells = slices.Clone(l) }
	}
	for _, n := range append(farInts, 0, 13) {
		out[fmt.Sprint("a size of ", n)] = func(p *impl.Pool) { p.Vols[2].Size = n }
	}
	for _, s := range []string{"", "A", "abcdefg", "b-1", "b 1", "b1\n", "ä", "\x00", strings.Repeat("b", 65537)} {
		out[fmt.Sprintf("the name %.9q", s)] = func(p *impl.Pool) { p.Vols[1].Name = s }
	}
	return out
}

func spoiled(f func(p *impl.Pool)) impl.Pool {
	p := richPool()
	f(&p)
	return p
}

// badPools returns a pool for each reason why a pool is not valid.
func badPools() map[string]impl.Pool {
	out := map[string]impl.Pool{"the zero Pool": {}, "7 volumes": volsPool(7), "17 versions": agesPool(17)}
	for what, f := range spoilers() {
		out[what] = spoiled(f)
	}
	return out
}

func TestPoolConstants(t *testing.T) {
	if impl.MaxVols != 6 || impl.MaxSize != 12 {
		t.Errorf("MaxVols, MaxSize = %d, %d, want 6, 12", impl.MaxVols, impl.MaxSize)
	}
}

func TestPoolNew(t *testing.T) {
	p := impl.PoolNew()
	expectPool(t, "PoolNew", p, impl.Pool{T: impl.TreeNew(), Cells: impl.CellsNew(), Next: 1})
	expectPoolOk(t, "PoolNew", p, true)
	expectLookups(t, "PoolNew", p)
	for id := range 62 {
		expectIdle(t, "PoolNew", p, id, true)
	}
}

func TestPoolOkAtTheLimits(t *testing.T) {
	for what, p := range soundPools(t) {
		expectPoolOk(t, what, p, true)
	}
	expectPoolOk(t, "7 volumes", volsPool(7), false)
	expectPoolOk(t, "12 volumes", volsPool(12), false)
	expectPoolOk(t, "17 versions", agesPool(17), false)
	expectPoolOk(t, "the zero Pool", impl.Pool{}, false)
}

func TestPoolOkForEachNext(t *testing.T) {
	p := impl.PoolNew()
	for _, next := range append(farInts, 62, 63, 64, 256) {
		p.Next = next
		expectPoolOk(t, "no versions", p, false)
	}
	for next := range 63 {
		p = impl.PoolNew()
		p.Next = next
		expectPoolOk(t, "no versions", p, within(next, 1, 61))
		for id := 1; id <= 60; id++ {
			p.Ages = agesOf(id, 0)
			expectPoolOk(t, "one version", p, next < 62 && id < next)
			if id > 1 {
				p.Ages = agesOf(1, 0, id, 1)
				expectPoolOk(t, "two versions", p, next < 62 && id < next)
			}
		}
	}
}

func TestPoolOkForEachSize(t *testing.T) {
	for i := range richPool().Vols {
		for _, size := range append(farInts, 0, 1, 2, 3, 4, 5, 6, 7, 8, 9, 10, 11, 12, 13, 14, 15, 16, 255) {
			p := richPool()
			p.Vols[i].Size = size
			expectPoolOk(t, "a size", p, within(size, 1, 12))
			p.Vols[i].Fixed = !p.Vols[i].Fixed
			expectPoolOk(t, "a size, read-only or not", p, within(size, 1, 12))
		}
	}
}

// TestPoolOkForEachPairOfNames also gives names that are not valid, and names of
// which one begins with the other.
func TestPoolOkForEachPairOfNames(t *testing.T) {
	names := []string{"0", "00", "09", "9", "90", "a", "a0", "aa", "az", "b", "z", "zz", "zzzzzz", "", "A", "aaaaaaa", "a b", "é"}
	for _, a := range names {
		p := volsPool(1)
		p.Vols[0].Name = a
		expectPoolOk(t, "a name", p, validName(a))
		for _, b := range names {
			p = volsPool(2)
			p.Vols[0].Name, p.Vols[1].Name = a, b
			expectPoolOk(t, "two names", p, validName(a) && validName(b) && strings.Compare(a, b) < 0)
			p = volsPool(3)
			p.Vols[0].Name, p.Vols[1].Name, p.Vols[2].Name = "0", a, b
			expectPoolOk(t, "three names", p, validName(a) && validName(b) && a != "0" && strings.Compare(a, b) < 0)
		}
	}
}

// TestPoolOkForEachVersionOfTwoVolumes gives two volumes any versions of a
// forest.
func TestPoolOkForEachVersionOfTwoVolumes(t *testing.T) {
	for _, l := range [][]impl.Age{family(), rootsOf(4), chainOf(1, 5), agesOf(3, 0, 5, 3, 6, 3)} {
		for a := -1; a <= 31; a++ {
			for b := -1; b <= 31; b++ {
				p := volsPool(2)
				p.Ages, p.Next = l, 40
				p.Vols[0].Age, p.Vols[1].Age = a, b
				leaf := func(id int) bool { return firstWith(l, id) >= 0 && len(childrenOf(l, id)) == 0 }
				expectPoolOk(t, "two volumes", p, leaf(a) && leaf(b) && a != b)
			}
		}
	}
}

func TestPoolOkRejects(t *testing.T) {
	for what, f := range spoilers() {
		expectPoolOk(t, what, spoiled(f), false)
	}
}

// TestPoolOkForEachCell changes each cell of a pool: whether it is used, its
// word and its generation.
func TestPoolOkForEachCell(t *testing.T) {
	for _, old := range []impl.Pool{richPool(), cellsPool(t, 10), cellsPool(t, 24), impl.PoolNew()} {
		for i, c := range old.Cells {
			p := deepPool(old)
			p.Cells[i] = impl.Cell{Gen: c.Gen, Used: !c.Used}
			expectPoolOk(t, "a cell used or not", p, false)
			p.Cells[i] = impl.Cell{Gen: (c.Gen + 1) % 1000, Used: c.Used}
			expectPoolOk(t, "a cell of another generation", p, !c.Used)
			p.Cells[i] = c
			p.Cells[i].N = 1234
			expectPoolOk(t, "a cell with another word", p, c.Used)
		}
	}
}

// TestPoolOkForEachReference lets one key refer to each cell, in each generation
// that a cell has.
func TestPoolOkForEachReference(t *testing.T) {
	for n := range 25 {
		for cell := range 24 {
			for _, gen := range []int{0, 43 * cell, 43*cell + 1, 43 * n, 999} {
				p := cellsPool(t, n)
				p.T = grown(t, append(liveTreeKeys(p.T), refTo(12, 1, cell, min(gen, 999)))...)
				expectPoolOk(t, "a key too many", p, false)
				if n < 24 {
					p.Cells[n] = cellAs(43*n, 3)
					expectPoolOk(t, "a key and a cell", p, cell == n && gen == 43*n)
				}
			}
		}
	}
}

// TestPoolOkForEachVersionOfAKey moves a key of each kind to each version.
func TestPoolOkForEachVersionOfAKey(t *testing.T) {
	for _, l := range [][]impl.Age{nil, family(), rootsOf(4), chainOf(1, 16)} {
		for id := 1; id <= 60; id++ {
			p := impl.Pool{T: grown(t, goneKey(15, id)), Ages: l, Cells: mixedCells(0), Next: 61}
			expectPoolOk(t, "a key of kind KGone", p, firstWith(l, id) >= 0)
			p.T, p.Cells = grown(t, refTo(0, id, 4, 172)), mixedCells(16)
			expectPoolOk(t, "a key of kind KData", p, firstWith(l, id) >= 0)
			p.T, p.Cells = loose(noneKey(0, id)), mixedCells(0)
			expectPoolOk(t, "a deletion", p, true)
		}
	}
}

// TestPoolOkIgnoresHiddenKeys covers what a newer layer hides: the key may have
// any version and any cell, also one that another key refers to.
func TestPoolOkIgnoresHiddenKeys(t *testing.T) {
	for _, hidden := range []impl.Key{goneKey(4, 60), refTo(4, 60, 0, 0), refTo(4, 60, 3, 123), refTo(4, 60, 3, 7), refTo(4, 60, 20, 820), refTo(4, 60, 20, 5)} {
		p := richPool()
		p.T.Nodes[1].Sets[0][3], p.T.Nodes[1].Sets[1][0] = hidden, noneKey(4, 60)
		expectPoolOk(t, "a deleted key", p, true)
		p.T.Nodes[1].Sets[1] = p.T.Nodes[1].Sets[1][1:]
		expectPoolOk(t, "a key that is not deleted", p, false)
	}
	p := richPool()
	p.T.Nodes[0].Sets[0][0] = refTo(0, 1, 3, 123)
	expectPoolOk(t, "the same key in two layers", p, true)
	p.T.Nodes[0].Sets[0][0] = goneKey(0, 1)
	expectPoolOk(t, "a key over KGone", p, true)
	p.T.Nodes[0].Sets[1][0], p.T.Nodes[0].Sets[0][0] = goneKey(0, 1), refTo(0, 1, 3, 123)
	expectPoolOk(t, "KGone over a key of a used cell", p, false)
	p.Cells[3] = impl.Cell{Gen: 124}
	expectPoolOk(t, "KGone over a key of an unused cell", p, true)
}

func TestPoolOkStopsAtTheLength(t *testing.T) {
	p := volsPool(7)
	p.Vols = p.Vols[:6]
	expectPoolOk(t, "a spare volume", p, true)
	p = agesPool(16)
	p.Ages, p.Vols = p.Ages[:15], nil
	expectPoolOk(t, "a spare version", p, true)
	p.Vols = []impl.Vol{volAs("v", 46, 12)}
	expectPoolOk(t, "the volume of a spare version", p, false)
	p = impl.PoolNew()
	p.Cells = append(p.Cells, cellAs(0, 1))[:24]
	expectPoolOk(t, "a spare cell", p, true)
	p.Cells = p.Cells[:23]
	expectPoolOk(t, "a spare cell that is missing", p, false)
}

func TestVolAt(t *testing.T) {
	p := richPool()
	for i, v := range p.Vols {
		expectVolAt(t, "a volume", p, v.Name, i)
	}
	for _, name := range []string{"", "b", "b10", "A", "a ", "e", "0", "zzzzzz", "abcdefg", "\x00"} {
		expectVolAt(t, "no volume", p, name, -1)
		expectVolAt(t, "a new pool", impl.PoolNew(), name, -1)
		expectVolAt(t, "the zero Pool", impl.Pool{}, name, -1)
	}
	p.Vols = slices.Concat(p.Vols[1:3], p.Vols)
	expectVolAt(t, "a name that is there twice", p, "b1", 0)
	expectVolAt(t, "another name that is there twice", p, "c", 1)
	expectVolAt(t, "a name that is there once", p, "a", 2)
	for _, name := range []string{"", "A", "abcdefg", "\xff"} {
		p.Vols[4].Name = name
		expectVolAt(t, "a name that is not valid", p, name, 4)
	}
	p.Vols = p.Vols[:4]
	expectVolAt(t, "a spare volume", p, "d", -1)
}

func TestIdle(t *testing.T) {
	p := richPool()
	for id := -1; id <= 62; id++ {
		expectIdle(t, "a version", p, id, id != 3 && id != 4 && id != 6 && id != 7)
		expectIdle(t, "a new pool", impl.PoolNew(), id, true)
		expectIdle(t, "the zero Pool", impl.Pool{}, id, true)
	}
	for _, id := range farInts {
		expectIdle(t, "a version out of range", p, id, true)
		p.Vols[2].Age = id
		expectIdle(t, "the version of a volume, out of range", p, id, false)
		expectIdle(t, "the version that the volume had", p, 3, true)
	}
	p.Vols[2].Age = 0
	expectIdle(t, "version 0", p, 0, false)
	p.Vols[2].Age = 6
	expectIdle(t, "the version of two volumes", p, 6, false)
	p.Vols = p.Vols[:1]
	expectIdle(t, "the version of a spare volume", p, 7, true)
	p.Ages = nil
	expectIdle(t, "the version of a volume, not in the list", p, 6, false)
}

func TestBlockOf(t *testing.T) {
	p := richPool()
	want := [][]int{{0, 42, 0, 0}, {100, 65535, 0, 9}, {100, 0, 7, 0, 0, 0, 0, 0, 0, 0, 0, 77}, {31}}
	for i, v := range p.Vols {
		for blk := -3; blk < 20; blk++ {
			n := 0
			if within(blk, 0, v.Size-1) {
				n = want[i][blk]
			}
			expectBlock(t, "a block", p, i, blk, n)
		}
		for _, blk := range farInts {
			expectBlock(t, "a block out of range", p, i, blk, 0)
		}
	}
	for _, i := range append(farInts, 4, 5, 6) {
		for blk := -1; blk < 13; blk++ {
			expectBlock(t, "no volume", p, i, blk, 0)
			expectBlock(t, "a new pool", impl.PoolNew(), i, blk, 0)
		}
	}
	p.Vols[0].Size = 12
	expectBlock(t, "a block that is inherited, in a larger volume", p, 0, 5, 55)
	p.Vols[3].Size = 2
	expectBlock(t, "a block in a larger volume", p, 3, 1, 32)
	expectBlock(t, "the block behind", p, 3, 2, 0)
}

// TestBlockOfEachWay goes through the kinds of the mapping that a version and
// its parent have.
func TestBlockOfEachWay(t *testing.T) {
	kinds := []string{"none", "KData", "KGone", "deleted"}
	for above, aboveKind := range kinds {
		for own, ownKind := range kinds {
			p := lastPool(10)
			p.Ages, p.Vols[0].Age = agesOf(5, 0, 7, 5, 9, 0), 7
			for i, way := range []int{above, own} {
				age := 5 + 2*i
				if way == 1 || way == 3 {
					p.T, _ = impl.TreePut(p.T, refTo(3, age, 10+i, 0))
					p.Cells[10+i] = cellAs(0, 100+i)
				}
				if way == 2 {
					p.T, _ = impl.TreePut(p.T, goneKey(3, age))
				}
				if way == 3 {
					p.T, _ = impl.TreePut(p.T, noneKey(3, age))
					p.Cells[10+i] = impl.Cell{Gen: 1}
				}
			}
			n := 0
			switch {
			case own == 1:
				n = 101
			case own != 2 && above == 1:
				n = 100
			}
			what := aboveKind + " above, " + ownKind
			expectPoolOk(t, what, p, true)
			expectBlock(t, what, p, 0, 3, n)
			expectLookups(t, what, p)
		}
	}
}

func TestBlockOfSoundPools(t *testing.T) {
	for what, p := range soundPools(t) {
		expectLookups(t, what, p)
	}
}

// TestLookupsInInvalidPools covers pools for which the chapter states no
// precondition of VolAt, Idle and BlockOf.
func TestLookupsInInvalidPools(t *testing.T) {
	for what, f := range spoilers() {
		expectLookups(t, what, spoiled(f))
	}
	p := richPool()
	p.Vols[2].Size = math.MaxInt
	p.T = grown(t, refTo(2, 3, 23, 943), refTo(15, 1, 3, 123))
	expectBlock(t, "the last block", p, 2, 15, 100)
	expectBlock(t, "a block that no key may have", p, 2, 16, 0)
	expectBlock(t, "the greatest block", p, 2, math.MaxInt-1, 0)
	p.Cells[23].N = -5
	expectBlock(t, "a cell with no word", p, 2, 2, -5)
	p.Cells[23].Used = false
	expectBlock(t, "a cell that is not used", p, 2, 2, 0)
	p.Cells[23] = cellAs(942, 5)
	expectBlock(t, "a cell of another generation", p, 2, 2, 0)
	p.Cells = p.Cells[:23]
	expectBlock(t, "a key without a cell", p, 2, 2, 0)
	p.Ages = nil
	expectBlock(t, "a version that does not exist", p, 2, 15, 0)
}

// TestPoolOkAfterEachChange changes one number of a pool after the other and
// compares PoolOk with the chapter's wording.
func TestPoolOkAfterEachChange(t *testing.T) {
	valid, invalid := 0, 0
	for what, old := range soundPools(t) {
		for i := 0; ; i++ {
			p := deepPool(old)
			numbers := numbersOf(&p)
			if i == len(numbers) {
				break
			}
			was := *numbers[i]
			for _, n := range []int{was - 1, was + 1, 0, 1, 2, 3, 12, 24, 61} {
				*numbers[i] = n
				want := validPool(p)
				if got := impl.PoolOk(p); got != want {
					t.Fatalf("%s: PoolOk(%v) = %v, want %v", what, p, got, want)
				}
				if want {
					valid++
				} else {
					invalid++
				}
			}
		}
	}
	if valid < 5000 || invalid < 10000 {
		t.Errorf("%d valid pools, %d invalid ones", valid, invalid)
	}
}

// numbersOf returns all numbers of a pool.
func numbersOf(p *impl.Pool) []*int {
	out := []*int{&p.Next}
	for i := range p.T.Lows {
		out = append(out, &p.T.Lows[i])
	}
	for _, n := range p.T.Nodes {
		for _, s := range n.Sets {
			for i := range s {
				out = append(out, fieldsOf(&s[i])...)
			}
		}
	}
	for i := range p.Ages {
		out = append(out, &p.Ages[i].Id, &p.Ages[i].From)
	}
	for i := range p.Cells {
		out = append(out, &p.Cells[i].Gen, &p.Cells[i].N)
	}
	for i := range p.Vols {
		out = append(out, &p.Vols[i].Age, &p.Vols[i].Size)
	}
	return out
}

// roomyPool returns a copy of p whose slices have spare capacity that holds
// something.
func roomyPool(p impl.Pool) impl.Pool {
	vols := append(slices.Clone(p.Vols), volAs("y", 5, 5), volAs("z", 6, 6))
	return impl.Pool{T: roomyTree(p.T), Ages: roomyAges(p.Ages), Cells: roomyCells(p.Cells), Vols: vols[:len(p.Vols)], Next: p.Next}
}

// expectWholePool expects that p, which roomyPool made of old, has not changed,
// the spare capacity included.
func expectWholePool(t *testing.T, what string, p, old impl.Pool) {
	t.Helper()
	expectWholeTree(t, what, p.T, old.T)
	expectWholeAges(t, what, p.Ages, old.Ages)
	expectWholeCells(t, what, p.Cells, old.Cells)
	want := append(slices.Clone(old.Vols), volAs("y", 5, 5), volAs("z", 6, 6))
	if got := p.Vols[:len(p.Vols)+2]; !slices.Equal(got, want) || p.Next != old.Next {
		t.Errorf("%s: the volumes are %v, want %v", what, got, want)
	}
}

// scratchPool overwrites all of p with all spare capacity.
func scratchPool(p impl.Pool) {
	scratchTree(p.T)
	fill(p.Ages, impl.Age{Id: -7, From: -7})
	fill(p.Cells, cellAs(-7, -7))
	fill(p.Vols, volAs("?", -7, -7))
}

// expectOwnMemory expects that a call that returns a pool changes nothing of its
// argument, a copy of old, and that the result shares no memory with it, with the
// result of another call, or between its nodes. It returns a copy of the result.
func expectOwnMemory(t *testing.T, what string, old impl.Pool, call func(p impl.Pool) impl.Pool) impl.Pool {
	t.Helper()
	p := roomyPool(old)
	out := call(p)
	want, result := deepPool(out), deepPool(out)
	expectWholePool(t, what, p, old)
	other := call(p)
	scratchPool(other)
	expectWholePool(t, what+", the argument after a change of another result", p, old)
	expectPool(t, what+", the result after a change of another result", out, want)
	scratchPool(p)
	expectPool(t, what+", the result after a change of the argument", out, want)
	for i := range out.T.Nodes {
		scratchNode(out.T.Nodes[i])
		out.T.Nodes[i], want.T.Nodes[i] = impl.Node{}, impl.Node{}
		expectPool(t, what+", after a change of a node", out, want)
	}
	return result
}

// somePools returns valid pools and invalid ones, in an order that does not
// change.
func somePools(t *testing.T) []impl.Pool {
	t.Helper()
	out := []impl.Pool{{}}
	sound, bad := soundPools(t), spoilers()
	for _, what := range sortedNames(sound) {
		out = append(out, sound[what])
	}
	for _, what := range sortedNames(bad) {
		out = append(out, spoiled(bad[what]))
	}
	return out
}

func sortedNames[T any](m map[string]T) []string {
	var out []string
	for what := range m {
		out = append(out, what)
	}
	slices.SortFunc(out, cmp.Compare[string])
	return out
}

func TestPoolLookupChangesNoArgument(t *testing.T) {
	for _, old := range somePools(t) {
		p := roomyPool(old)
		impl.PoolOk(p)
		expectLookups(t, "a pool with spare capacity", p)
		expectWholePool(t, "the argument", p, old)
	}
}

func TestNewPoolsShareNoMemory(t *testing.T) {
	a, b := impl.PoolNew(), impl.PoolNew()
	scratchPool(a)
	expectPool(t, "a new pool after a change of another one", b, impl.Pool{T: impl.TreeNew(), Cells: impl.CellsNew(), Next: 1})
	expectPoolOk(t, "a pool made later", impl.PoolNew(), true)
}
