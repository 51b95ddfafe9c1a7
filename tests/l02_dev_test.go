package tests

import (
	"bytes"
	"math"
	"slices"
	"testing"

	"loop.example/g00467/impl"
)

// fullDev returns a valid device with the given durable sectors and no cache.
func fullDev(secs ...string) impl.Dev {
	d := impl.Dev{Fuse: -1}
	for _, s := range secs {
		d.Secs = append(d.Secs, []byte(s))
	}
	return d
}

// withWrites returns d with writes put directly into its cache: write i goes to
// the sector secs[i] and contains the byte 100+i.
func withWrites(d impl.Dev, secs ...int) impl.Dev {
	for i, n := range secs {
		d.Cache = append(d.Cache, impl.Wr{N: n, B: []byte{byte(100 + i)}})
	}
	return d
}

// manyWrites returns a device of three sectors with n cached writes, which go
// to the sectors 0, 1, 2, 0, 1, 2 ...
func manyWrites(n int) impl.Dev {
	secs := make([]int, n)
	for i := range secs {
		secs[i] = i % 3
	}
	return withWrites(fullDev("p", "q", "r"), secs...)
}

// deepDev returns a copy of d that shares no memory with it.
func deepDev(d impl.Dev) impl.Dev {
	out := impl.Dev{Fuse: d.Fuse, Down: d.Down}
	for _, b := range d.Secs {
		out.Secs = append(out.Secs, bytes.Clone(b))
	}
	for _, w := range d.Cache {
		out.Cache = append(out.Cache, impl.Wr{N: w.N, B: bytes.Clone(w.B)})
	}
	return out
}

func sameDev(a, b impl.Dev) bool {
	return a.Fuse == b.Fuse && a.Down == b.Down && slices.EqualFunc(a.Secs, b.Secs, bytes.Equal) &&
		slices.EqualFunc(a.Cache, b.Cache, func(v, w impl.Wr) bool { return v.N == w.N && bytes.Equal(v.B, w.B) })
}

func expectDev(t *testing.T, what string, got, want impl.Dev) {
	t.Helper()
	if !sameDev(got, want) {
		t.Errorf("%s = %v, want %v", what, got, want)
	}
}

// invalidDevs returns one device for each reason why a device is not valid.
func invalidDevs() map[string]impl.Dev {
	long := make([]byte, impl.SecLen+1)
	fuse := func(n int) impl.Dev {
		d := manyWrites(2)
		d.Fuse = n
		return d
	}
	return map[string]impl.Dev{
		"the zero Dev":        {},
		"no sectors":          {Fuse: -1},
		"61 sectors":          {Secs: make([][]byte, impl.MaxSecs+1), Fuse: -1},
		"long sector":         {Secs: [][]byte{nil, long}, Fuse: -1},
		"61 cached writes":    manyWrites(impl.MaxCache + 1),
		"long write":          {Secs: make([][]byte, 2), Cache: []impl.Wr{{N: 0}, {N: 1, B: long}}, Fuse: -1},
		"write after sectors": withWrites(fullDev("p", "q"), 0, 2),
		"write before them":   withWrites(fullDev("p", "q"), 0, -1),
		"write far away":      withWrites(fullDev("p", "q"), math.MinInt),
		"fuse -2":             fuse(-2),
		"fuse 1001":           fuse(1001),
		"least fuse":          fuse(math.MinInt),
		"largest fuse":        fuse(math.MaxInt),
	}
}

func TestDevNew(t *testing.T) {
	for _, n := range []int{1, 2, 59, 60} {
		d := impl.DevNew(n)
		expectDev(t, "DevNew", d, impl.Dev{Secs: make([][]byte, n), Fuse: -1})
		if !impl.DevOk(d) {
			t.Errorf("DevNew(%d) is not valid", n)
		}
	}
	for _, n := range []int{0, -1, 61, math.MinInt, math.MaxInt} {
		expectDev(t, "DevNew", impl.DevNew(n), impl.Dev{})
	}
}

func TestDevOkAtTheLimits(t *testing.T) {
	largest := impl.Dev{Fuse: 1000, Down: true}
	for range impl.MaxSecs {
		largest.Secs = append(largest.Secs, make([]byte, impl.SecLen))
	}
	for i := range impl.MaxCache {
		largest.Cache = append(largest.Cache, impl.Wr{N: impl.MaxSecs - 1 - i, B: make([]byte, impl.SecLen)})
	}
	smallest := impl.Dev{Secs: [][]byte{nil}}
	for i, d := range []impl.Dev{largest, smallest, fullDev("p"), manyWrites(impl.MaxCache)} {
		if !impl.DevOk(d) {
			t.Errorf("device %d is valid", i)
		}
	}
	for what, d := range invalidDevs() {
		if impl.DevOk(d) {
			t.Errorf("%s: not valid", what)
		}
	}
}

func TestDevOkIgnoresSpareCapacity(t *testing.T) {
	d := withWrites(fullDev("p"), 0, 7)
	d.Cache = d.Cache[:1]
	d.Secs = append(d.Secs, make([]byte, impl.SecLen+1))[:1]
	if !impl.DevOk(d) {
		t.Error("elements beyond the length were read")
	}
	expectDev(t, "FlushDev", impl.FlushDev(d), fullDev("d"))
}

func TestReadSecFindsTheLastWrite(t *testing.T) {
	d := withWrites(fullDev("p", "q", "r"), 1, 0, 1)
	for n, want := range []string{"e", "f", "r"} {
		if got := string(impl.ReadSec(d, n)); got != want {
			t.Errorf("sector %d reads %q, want %q", n, got, want)
		}
	}
	d.Cache = append(d.Cache, impl.Wr{N: 2})
	if got := impl.ReadSec(d, 2); len(got) != 0 {
		t.Errorf("sector 2 reads %q after an empty write", got)
	}
	d.Down = true
	if got := string(impl.ReadSec(d, 0)); got != "e" {
		t.Errorf("sector 0 reads %q while Down", got)
	}
}

func TestReadSecOfNothing(t *testing.T) {
	d := withWrites(fullDev("p", "q"), 1)
	for _, n := range []int{-1, 2, 60, math.MinInt, math.MaxInt} {
		if got := impl.ReadSec(d, n); len(got) != 0 {
			t.Errorf("sector %d reads %q", n, got)
		}
	}
	for what, bad := range invalidDevs() {
		for _, n := range []int{-1, 0, 1, 2} {
			if got := impl.ReadSec(bad, n); len(got) != 0 {
				t.Errorf("%s: sector %d reads %q", what, n, got)
			}
		}
	}
}

func TestWriteSecAppendsToTheCache(t *testing.T) {
	d := fullDev("p", "q")
	whole := oddText(impl.SecLen)
	d = impl.WriteSec(d, 1, []byte(whole))
	d = impl.WriteSec(d, 0, nil)
	d = impl.WriteSec(d, 1, []byte("z"))
	want := fullDev("p", "q")
	want.Cache = []impl.Wr{{N: 1, B: []byte(whole)}, {N: 0}, {N: 1, B: []byte("z")}}
	expectDev(t, "WriteSec", d, want)
}

func TestWriteSecRejects(t *testing.T) {
	for _, fuse := range []int{-1, 0, 1} {
		d := manyWrites(impl.MaxCache - 1)
		d.Fuse = fuse
		for _, n := range []int{-1, 3, math.MinInt, math.MaxInt} {
			expectDev(t, "WriteSec to no sector", impl.WriteSec(d, n, nil), d)
		}
		expectDev(t, "WriteSec of 81 bytes", impl.WriteSec(d, 0, make([]byte, impl.SecLen+1)), d)
		full := manyWrites(impl.MaxCache)
		full.Fuse = fuse
		expectDev(t, "WriteSec to a full cache", impl.WriteSec(full, 0, nil), full)
		down := manyWrites(1)
		down.Fuse, down.Down = fuse, true
		expectDev(t, "WriteSec while Down", impl.WriteSec(down, 0, nil), down)
	}
	if got := impl.WriteSec(manyWrites(impl.MaxCache-1), 0, nil); len(got.Cache) != impl.MaxCache {
		t.Error("a cache of 59 writes takes one more")
	}
}

func TestInvalidDevsAreReturned(t *testing.T) {
	for what, d := range invalidDevs() {
		expectDev(t, what+": WriteSec", impl.WriteSec(d, 0, []byte("x")), d)
		expectDev(t, what+": FlushDev", impl.FlushDev(d), d)
		expectDev(t, what+": FallDev", impl.FallDev(d, 1), d)
		d.Down = true
		expectDev(t, what+": FallDev while Down", impl.FallDev(d, 1), d)
	}
}

func TestFuseOfWrites(t *testing.T) {
	for fuse := range 4 {
		d := impl.DevNew(1)
		d.Fuse = fuse
		for i := range fuse {
			d = impl.WriteSec(d, 0, []byte{byte(i)})
			if d.Down || d.Fuse != fuse-1-i || len(d.Cache) != i+1 {
				t.Errorf("fuse %d, write %d: %v", fuse, i, d)
			}
		}
		failed := impl.WriteSec(d, 0, []byte("x"))
		want := deepDev(d)
		want.Down, want.Fuse = true, -1
		expectDev(t, "WriteSec with Fuse 0", failed, want)
		expectDev(t, "WriteSec while Down", impl.WriteSec(failed, 0, []byte("x")), want)
		expectDev(t, "FlushDev while Down", impl.FlushDev(failed), want)
	}
	d := impl.DevNew(1)
	d.Fuse = 1000
	if d = impl.WriteSec(d, 0, nil); d.Fuse != 999 || d.Down {
		t.Error("fuse 1000", d)
	}
}

func TestFuseOfFlushes(t *testing.T) {
	d := manyWrites(4)
	d.Fuse = 0
	failed := impl.FlushDev(d)
	want := manyWrites(4)
	want.Down = true
	expectDev(t, "FlushDev with Fuse 0", failed, want)
	expectDev(t, "FlushDev again", impl.FlushDev(failed), want)
	d.Fuse = 1
	want = fullDev("g", "e", "f")
	want.Fuse = 0
	expectDev(t, "FlushDev with Fuse 1", impl.FlushDev(d), want)
	down := manyWrites(4)
	down.Down, down.Fuse = true, 0
	expectDev(t, "FlushDev while Down", impl.FlushDev(down), down)
	empty := fullDev("p")
	empty.Fuse = 0
	if got := impl.FlushDev(empty); !got.Down || got.Fuse != -1 {
		t.Error("a flush of nothing is an operation too", got)
	}
}

func TestFlushDevAppliesInOrder(t *testing.T) {
	d := withWrites(fullDev("p", "q", "r", "s"), 2, 0, 2, 1, 0)
	expectDev(t, "FlushDev", impl.FlushDev(d), fullDev("h", "g", "f", "s"))
	expectDev(t, "FlushDev", impl.FlushDev(fullDev("p")), fullDev("p"))
	short := impl.WriteSec(fullDev(oddText(impl.SecLen)), 0, []byte("z"))
	expectDev(t, "FlushDev", impl.FlushDev(short), fullDev("z"))
	expectDev(t, "FlushDev", impl.FlushDev(manyWrites(impl.MaxCache)), fullDev("\x9d", "\x9e", "\x9f"))
}

// fallen returns the sectors that d has after only the writes in keep survived.
func fallen(d impl.Dev, keep int) impl.Dev {
	out := deepDev(d)
	for i, w := range out.Cache {
		if i < 30 && keep&(1<<i) != 0 {
			out.Secs[w.N] = w.B
		}
	}
	out.Cache, out.Down, out.Fuse = nil, false, -1
	return out
}

func TestFallDevForEachSubset(t *testing.T) {
	d := withWrites(fullDev("p", "q", "r"), 1, 0, 1, 1, 0, 2, 1)
	for keep := range 1 << len(d.Cache) {
		expectDev(t, "FallDev", impl.FallDev(d, keep), fallen(d, keep))
		// Bits beyond the last write mean nothing.
		expectDev(t, "FallDev", impl.FallDev(d, keep|1<<20), fallen(d, keep))
	}
}

func TestFallDevBits(t *testing.T) {
	for _, n := range []int{29, 30, 31, 59, 60} {
		d := manyWrites(n)
		for i := range 30 {
			expectDev(t, "FallDev", impl.FallDev(d, 1<<i), fallen(d, 1<<i))
		}
		expectDev(t, "FallDev", impl.FallDev(d, 1<<30-1), fallen(d, 1<<30-1))
	}
	d := withWrites(fullDev("p", "q"), make([]int, 30)...)
	d = impl.WriteSec(d, 1, []byte("x"))
	expectDev(t, "FallDev", impl.FallDev(d, 1<<30-1), fullDev("\x81", "q"))
}

func TestFallDevKeepOutOfRange(t *testing.T) {
	for _, n := range []int{1, 29, 31, 60} {
		d := manyWrites(n)
		for _, keep := range []int{0, -1, -2, 1 << 30, 1<<30 + 1, 1<<31 - 1, 1<<40 | 1, math.MinInt, math.MaxInt} {
			expectDev(t, "FallDev", impl.FallDev(d, keep), fullDev("p", "q", "r"))
		}
	}
}

func TestFallDevRestarts(t *testing.T) {
	for _, down := range []bool{false, true} {
		for _, fuse := range []int{-1, 0, 5, 1000} {
			d := withWrites(fullDev("p", "q"), 0)
			d.Fuse, d.Down = fuse, down
			expectDev(t, "FallDev", impl.FallDev(d, 0), fullDev("p", "q"))
			expectDev(t, "FallDev", impl.FallDev(d, 1), fullDev("d", "q"))
		}
	}
	d := fullDev("p")
	d.Fuse = 0
	d = impl.FallDev(impl.WriteSec(d, 0, []byte("x")), 1)
	expectDev(t, "FallDev", d, fullDev("p"))
	if d = impl.WriteSec(d, 0, []byte("y")); string(impl.ReadSec(d, 0)) != "y" {
		t.Error("a device that was restarted takes writes", d)
	}
}

// runUntilPowerFails issues writes and flushes until power fails. It returns
// the device and, for each sector, what it may contain after the restart: the
// content at the last flush and that of every write since.
func runUntilPowerFails(t *testing.T, fuse int) (impl.Dev, [][]string) {
	t.Helper()
	d := fullDev("p", "q", "r")
	d.Fuse = fuse
	may := [][]string{{"p"}, {"q"}, {"r"}}
	for i := range fuse + 1 {
		n, text := i*i%3, oddText(i)
		next := impl.WriteSec(d, n, []byte(text))
		if i%5 == 4 {
			next = impl.FlushDev(d)
		}
		if next.Down != (i == fuse) || len(next.Cache) > 4 {
			t.Fatalf("fuse %d: operation %d leaves %v", fuse, i, next)
		}
		d = next
		if d.Down {
			break
		}
		if i%5 != 4 {
			may[n] = append(may[n], text)
		} else {
			for s := range may {
				may[s] = may[s][len(may[s])-1:]
			}
		}
	}
	return d, may
}

func TestSectorsAfterPowerFailure(t *testing.T) {
	for fuse := range 40 {
		d, may := runUntilPowerFails(t, fuse)
		for keep := range 1 << len(d.Cache) {
			up := impl.FallDev(d, keep)
			for n, b := range up.Secs {
				if !slices.Contains(may[n], string(b)) {
					t.Errorf("fuse %d, keep %d: sector %d has %q, want one of %q", fuse, keep, n, b, may[n])
				}
			}
		}
		none, all := impl.FallDev(d, 0), impl.FallDev(d, 1<<len(d.Cache)-1)
		for n := range may {
			if string(none.Secs[n]) != may[n][0] || string(all.Secs[n]) != may[n][len(may[n])-1] {
				t.Errorf("fuse %d: sector %d has %q or %q, want the ends of %q", fuse, n, none.Secs[n], all.Secs[n], may[n])
			}
		}
	}
}

// scratch overwrites all memory that d refers to, spare capacity included.
func scratch(d impl.Dev) {
	for _, b := range d.Secs[:cap(d.Secs)] {
		scratchBytes(b)
	}
	clear(d.Secs[:cap(d.Secs)])
	for _, w := range d.Cache[:cap(d.Cache)] {
		scratchBytes(w.B)
	}
	clear(d.Cache[:cap(d.Cache)])
}

func scratchBytes(b []byte) {
	b = b[:cap(b)]
	for i := range b {
		b[i] ^= 0xff
	}
}

// devCalls returns the results of all calls that return a device.
func devCalls(d impl.Dev, b []byte) []impl.Dev {
	return []impl.Dev{
		impl.WriteSec(d, 1, b), impl.WriteSec(d, 9, b), impl.FlushDev(d), impl.FallDev(d, 0), impl.FallDev(d, 5),
	}
}

func TestDevsShareNoMemory(t *testing.T) {
	down := manyWrites(5)
	down.Down = true
	burnt := manyWrites(5)
	burnt.Fuse = 0
	broken := withWrites(fullDev("p", "q", "r"), 0, 3)
	for _, start := range []impl.Dev{manyWrites(5), down, burnt, broken} {
		for call := range devCalls(start, nil) {
			d, b := deepDev(start), []byte("new")
			out := devCalls(d, b)[call]
			want := deepDev(out)
			scratch(d)
			scratchBytes(b)
			expectDev(t, "the result after a change of the argument", out, want)
			d = deepDev(start)
			scratch(devCalls(d, b)[call])
			expectDev(t, "the argument after a change of the result", d, start)
		}
	}
}

func TestWriteSecLeavesItsBytes(t *testing.T) {
	b := tightSlice("new", "spare")
	d := impl.WriteSec(impl.DevNew(1), 0, b)
	expectUntouched(t, b, d.Cache[0].B, "newspare")
}

func TestWriteSecLeavesSpareCache(t *testing.T) {
	d := manyWrites(3)
	d.Cache = d.Cache[:2]
	impl.WriteSec(d, 0, []byte("x"))
	if w := d.Cache[:3][2]; w.N != 2 || string(w.B) != "f" {
		t.Error("the spare capacity of the cache was written", w)
	}
}

func TestReadSecSharesNoMemory(t *testing.T) {
	d := withWrites(fullDev("p", "q"), 1)
	scratchBytes(impl.ReadSec(d, 0))
	scratchBytes(impl.ReadSec(d, 1))
	expectDev(t, "the device after a change of what was read", d, withWrites(fullDev("p", "q"), 1))
}
