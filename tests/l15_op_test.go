package tests

import (
	"fmt"
	"math"
	"slices"
	"testing"

	"loop.example/g00467/impl"
)

func opCreate(name string, size int) impl.Op {
	return impl.Op{Kind: impl.OpCreate, Name: name, A: size}
}

func opSnap(name, to string, fixed int) impl.Op {
	return impl.Op{Kind: impl.OpSnap, Name: name, To: to, B: fixed}
}

func opWrite(name string, blk, n int) impl.Op {
	return impl.Op{Kind: impl.OpWrite, Name: name, A: blk, B: n}
}

func opKill(name string) impl.Op {
	return impl.Op{Kind: impl.OpKill, Name: name}
}

func opDiscard(name string, blk int) impl.Op {
	return impl.Op{Kind: impl.OpDiscard, Name: name, A: blk}
}

func opResize(name string, size int) impl.Op {
	return impl.Op{Kind: impl.OpResize, Name: name, A: size}
}

// opForm says what the fields of a valid operation of one kind are.
type opForm struct {
	name, to bool
	a, b     int
}

// opForms has the form of each kind, in the words of chapter 15.
var opForms = map[int]opForm{
	1: {true, false, 65535, 0}, 2: {true, true, 0, 1}, 3: {true, false, 0, 0},
	4: {true, false, 65535, 65535}, 5: {true, false, 65535, 0}, 6: {true, false, 65535, 0},
	7: {false, false, 0, 0}, 8: {false, false, 65535, 0}, 9: {false, false, 65535, 0},
}

// validOp says what OpOk returns.
func validOp(o impl.Op) bool {
	text := func(s string, name bool) bool { return name && validName(s) || !name && s == "" }
	f, ok := opForms[o.Kind]
	return ok && text(o.Name, f.name) && text(o.To, f.to) && within(o.A, 0, f.a) && within(o.B, 0, f.b)
}

func expectOpOk(t *testing.T, what string, o impl.Op, want bool) {
	t.Helper()
	if got := impl.OpOk(o); got != want || validOp(o) != want {
		t.Errorf("%s: OpOk(%v) = %v, want %v", what, o, got, want)
	}
}

func TestOpConstants(t *testing.T) {
	got := []int{impl.OpCreate, impl.OpSnap, impl.OpKill, impl.OpWrite, impl.OpDiscard, impl.OpResize, impl.OpPrune, impl.OpPack, impl.OpMove}
	if !slices.Equal(got, []int{1, 2, 3, 4, 5, 6, 7, 8, 9}) {
		t.Errorf("the kinds are %v", got)
	}
}

func TestOpOk(t *testing.T) {
	expectOpOk(t, "the zero Op", impl.Op{}, false)
	expectOpOk(t, "Create", opCreate("a", 12), true)
	expectOpOk(t, "Create with a size that no volume has", opCreate("a", 65535), true)
	expectOpOk(t, "Create without a size", opCreate("a", 0), true)
	expectOpOk(t, "Create with a B", impl.Op{Kind: impl.OpCreate, Name: "a", A: 3, B: 1}, false)
	expectOpOk(t, "Create with a To", impl.Op{Kind: impl.OpCreate, Name: "a", To: "b", A: 3}, false)
	expectOpOk(t, "Snap", opSnap("a", "b", 0), true)
	expectOpOk(t, "Snap, read-only", opSnap("a", "b", 1), true)
	expectOpOk(t, "Snap with a B of 2", opSnap("a", "b", 2), false)
	expectOpOk(t, "Snap with an A", impl.Op{Kind: impl.OpSnap, Name: "a", To: "b", A: 1}, false)
	expectOpOk(t, "Snap without a To", opSnap("a", "", 0), false)
	expectOpOk(t, "Snap to itself", opSnap("a", "a", 0), true)
	expectOpOk(t, "Write", opWrite("a", 65535, 65535), true)
	expectOpOk(t, "Write with a word of 65536", opWrite("a", 0, 65536), false)
	expectOpOk(t, "Write with a block of -1", opWrite("a", -1, 0), false)
}

// TestOpOkForEachField gives an operation of each kind each name, each To and
// each pair of numbers.
func TestOpOkForEachField(t *testing.T) {
	texts := append([]string{"a", "zz9", "abcdef"}, badNames...)
	numbers := append(slices.Clone(farInts), 0, 1, 2, 3, 12, 13, 255, 256, 65534, 65535)
	valid := map[int]int{}
	for kind := -2; kind <= 12; kind++ {
		for _, name := range texts {
			for _, to := range texts {
				for _, a := range numbers {
					for _, b := range numbers {
						o := impl.Op{Kind: kind, Name: name, To: to, A: a, B: b}
						want := validOp(o)
						if got := impl.OpOk(o); got != want {
							t.Fatalf("OpOk(%v) = %v, want %v", o, got, want)
						}
						if want {
							valid[kind]++
						}
					}
				}
			}
		}
	}
	if fmt.Sprint(valid) != "map[1:30 2:18 3:3 4:300 5:30 6:30 7:1 8:10 9:10]" {
		t.Errorf("the numbers of valid operations are %v", valid)
	}
}

func TestOpOkForEachKind(t *testing.T) {
	for _, kind := range append(slices.Clone(farInts), 0, 10, 255, 256, 257) {
		for _, name := range []string{"", "a"} {
			for _, to := range []string{"", "b"} {
				expectOpOk(t, "a kind that does not exist", impl.Op{Kind: kind, Name: name, To: to}, false)
			}
		}
	}
	for kind := 1; kind <= 9; kind++ {
		for n := range 65536 {
			o := impl.Op{Kind: kind, A: n}
			if opForms[kind].name {
				o.Name = "a"
			}
			if opForms[kind].to {
				o.To = "b"
			}
			if got := impl.OpOk(o); got != validOp(o) {
				t.Fatalf("OpOk(%v) = %v", o, got)
			}
			o.A, o.B = 0, n
			if got := impl.OpOk(o); got != validOp(o) {
				t.Fatalf("OpOk(%v) = %v", o, got)
			}
		}
	}
}

// doneBy says what Apply returns for an operation of the kinds up to OpResize.
func doneBy(p impl.Pool, o impl.Op) (impl.Pool, int) {
	switch {
	case !validOp(o) || !validPool(p):
		return p, impl.CoForm
	case o.Kind == impl.OpCreate:
		return afterCreate(p, o.Name, o.A)
	case o.Kind == impl.OpSnap:
		return afterSnap(p, o.Name, o.To, o.B == 1)
	case o.Kind == impl.OpKill:
		return afterKill(p, o.Name)
	case o.Kind == impl.OpDiscard:
		return afterDiscard(p, o.Name, o.A)
	case o.Kind == impl.OpResize:
		return afterResize(p, o.Name, o.A)
	}
	return afterWrite(p, o.Name, o.A, o.B)
}

// expectApplied compares Apply with the chapter's wording and returns the new
// pool.
func expectApplied(t *testing.T, what string, p impl.Pool, o impl.Op) (impl.Pool, int) {
	t.Helper()
	want, is := doneBy(p, o)
	got, code := impl.Apply(p, o)
	if code != is || !samePool(got, want) {
		t.Fatalf("%s: Apply(%v, %v) = %v, %d, want %v, %d", what, p, o, got, code, want, is)
	}
	return got, code
}

// someOps returns operations of the kinds up to OpResize, valid ones and invalid
// ones.
func someOps() []impl.Op {
	out := []impl.Op{{}, {Kind: impl.OpCreate}, {Kind: -1, Name: "a"}, {Kind: 10, Name: "a"}, {Kind: math.MaxInt}}
	for _, name := range []string{"a", "b", "b1", "d", "v", "z", "zz", "", "Z"} {
		for _, n := range []int{-1, 0, 1, 2, 5, 11, 12, 13, 65535, 65536} {
			out = append(out, opCreate(name, n), opWrite(name, n, 7), opWrite(name, 1, n), opDiscard(name, n), opResize(name, n))
			out = append(out, impl.Op{Kind: impl.OpCreate, Name: name, A: 3, B: n}, impl.Op{Kind: impl.OpSnap, Name: name, To: "e", A: n})
			out = append(out, impl.Op{Kind: impl.OpKill, Name: name, A: n}, impl.Op{Kind: impl.OpKill, Name: name, B: n})
			out = append(out, impl.Op{Kind: impl.OpDiscard, Name: name, A: 1, B: n}, impl.Op{Kind: impl.OpResize, Name: name, A: 1, B: n})
		}
		for _, to := range []string{"a", "e", "x", "", "E"} {
			for fixed := -1; fixed <= 2; fixed++ {
				out = append(out, opSnap(name, to, fixed))
			}
			out = append(out, impl.Op{Kind: impl.OpCreate, Name: name, To: to, A: 3}, impl.Op{Kind: impl.OpWrite, Name: name, To: to})
		}
	}
	return out
}

func TestApply(t *testing.T) {
	codes := map[int]int{}
	for what, p := range soundPools(t) {
		for _, o := range someOps() {
			got, code := expectApplied(t, what, p, o)
			expectPoolOk(t, what, got, true)
			codes[code]++
		}
	}
	for code := impl.CoGood; code <= impl.CoFull; code++ {
		if codes[code] < 10 {
			t.Errorf("few operations give %d: %v", code, codes)
		}
	}
}

func TestApplyReadsTheNumbers(t *testing.T) {
	p := impl.PoolNew()
	for _, o := range []impl.Op{opCreate("a", 12), opWrite("a", 3, 40000), opWrite("a", 11, 3), opSnap("a", "b", 1), opSnap("a", "c", 0), opWrite("c", 0, 11)} {
		p, _ = expectApplied(t, "a sequence", p, o)
	}
	if !p.Vols[1].Fixed || p.Vols[0].Fixed || p.Vols[2].Fixed || p.Next != 6 {
		t.Errorf("the volumes are %v", p.Vols)
	}
	expectContents(t, "a sequence", p, map[string][]int{
		"a": {0, 0, 0, 40000, 0, 0, 0, 0, 0, 0, 0, 3}, "b": {0, 0, 0, 40000, 0, 0, 0, 0, 0, 0, 0, 3}, "c": {11, 0, 0, 40000, 0, 0, 0, 0, 0, 0, 0, 3}})
	if _, code := impl.Apply(p, opWrite("b", 0, 1)); code != impl.CoFixed {
		t.Errorf("a write to a read-only snapshot gives %d", code)
	}
}

// TestApplyToEachVolume kills, discards and resizes, with numbers that tell a
// block from a size.
func TestApplyToEachVolume(t *testing.T) {
	p := impl.PoolNew()
	for _, o := range []impl.Op{opCreate("a", 6), opCreate("b", 3), opWrite("a", 1, 10), opWrite("a", 3, 30), opWrite("a", 5, 50), opWrite("b", 1, 11)} {
		p, _ = expectApplied(t, "a sequence", p, o)
	}
	p, _ = expectApplied(t, "Discard", p, opDiscard("a", 3))
	expectContents(t, "Discard", p, map[string][]int{"a": {0, 10, 0, 0, 0, 50}, "b": {0, 11, 0}})
	p, _ = expectApplied(t, "Resize", p, opResize("a", 4))
	expectContents(t, "Resize", p, map[string][]int{"a": {0, 10, 0, 0}, "b": {0, 11, 0}})
	p, _ = expectApplied(t, "Kill", p, opKill("b"))
	expectContents(t, "Kill", p, map[string][]int{"a": {0, 10, 0, 0}})
	p, _ = expectApplied(t, "Resize", p, opResize("a", 7))
	expectContents(t, "Resize", p, map[string][]int{"a": {0, 10, 0, 0, 0, 0, 0}})
	for _, c := range []struct {
		o    impl.Op
		want int
	}{{opKill("b"), impl.CoNone}, {opDiscard("b", 0), impl.CoNone}, {opDiscard("a", 7), impl.CoRange}, {opResize("a", 0), impl.CoRange}, {opResize("a", 13), impl.CoRange}} {
		got, code := impl.Apply(p, c.o)
		expectRefused(t, "Apply", got, code, p, c.want)
	}
}

func TestApplyToInvalidPools(t *testing.T) {
	ops := append([]impl.Op{opCreate("e", 4), opCreate("a", 4), opSnap("a", "e", 0), opWrite("a", 0, 5), opWrite("c", 99, 5), opKill("x"), opDiscard("a", 1), opResize("a", 1), {}, {Kind: 10}, opWrite("", 0, 5)}, validOps()...)
	for what, p := range badPools() {
		for _, o := range ops {
			got, code := impl.Apply(p, o)
			expectRefused(t, what, got, code, p, impl.CoForm)
		}
	}
}

// validOps returns a valid operation of each kind.
func validOps() []impl.Op {
	var out []impl.Op
	for kind := 1; kind <= 9; kind++ {
		o := impl.Op{Kind: kind}
		if opForms[kind].name {
			o.Name = "a"
		}
		if opForms[kind].to {
			o.To = "e"
		}
		out = append(out, o)
	}
	return out
}

// TestPoolsRemainValid applies operations of all kinds to valid pools, one after
// the other: whatever the operation does, the pool remains valid.
func TestPoolsRemainValid(t *testing.T) {
	seed := uint32(5)
	next := func(limit int) int {
		seed = seed*1664525 + 1013904223
		return int(seed>>8) % limit
	}
	names := []string{"a", "b", "b1", "c", "d", "v", "z", "e", "f", "", "Bad"}
	sound := soundPools(t)
	for _, what := range sortedNames(sound) {
		for range 10 {
			p := sound[what]
			for range 40 {
				o := impl.Op{Kind: next(12) - 1, Name: names[next(len(names))], A: next(14) - 1}
				switch {
				case o.Kind == impl.OpSnap:
					o.To, o.A, o.B = names[next(len(names))], 0, next(3)
				case o.Kind == impl.OpWrite:
					o.B = next(65537)
				case o.Kind >= impl.OpPrune:
					o.Name, o.A = "", next(24)
				}
				if o.Kind == impl.OpKill || o.Kind == impl.OpPrune {
					o.A = 0
				}
				got, code := impl.Apply(p, o)
				if !validPool(got) || !impl.PoolOk(got) || code != impl.CoGood && !samePool(got, p) {
					t.Fatalf("%s: Apply(%v, %v) = %v, %d", what, p, o, got, code)
				}
				p = got
			}
		}
	}
}

// TestApplyRefusesInvalidOperations also gives texts to operations whose kind does
// not use them.
func TestApplyRefusesInvalidOperations(t *testing.T) {
	for _, p := range []impl.Pool{impl.PoolNew(), richPool(), volsPool(6)} {
		for _, o := range validOps() {
			for _, bad := range badNames[1:] {
				name, to := o, o
				name.Name, to.To = bad, bad
				for _, x := range []impl.Op{name, to} {
					got, code := impl.Apply(p, x)
					expectRefused(t, "no name", got, code, p, impl.CoForm)
				}
			}
			for _, n := range farInts {
				a, b := o, o
				a.A, b.B = n, n
				for _, x := range []impl.Op{a, b} {
					got, code := impl.Apply(p, x)
					expectRefused(t, "no word", got, code, p, impl.CoForm)
				}
			}
		}
	}
}

func TestApplySharesNoMemory(t *testing.T) {
	ops := append([]impl.Op{{}, opCreate("e", 4), opCreate("a", 4), opSnap("a", "e", 1), opWrite("a", 0, 5), opWrite("a", 1, 5), opWrite("c", 2, 5), opWrite("b1", 2, 5), opWrite("a", 99, 5), opWrite("v", 9, 5),
		opKill("d"), opKill("x"), opDiscard("a", 1), opDiscard("c", 0), opDiscard("a", 99), opResize("c", 1), opResize("a", 12), opResize("a", 99)}, validOps()...)
	for _, old := range somePools(t) {
		for _, o := range ops {
			expectOwnMemory(t, "Apply", old, func(p impl.Pool) impl.Pool {
				out, _ := impl.Apply(p, o)
				return out
			})
		}
	}
}
