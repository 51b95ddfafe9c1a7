package tests

import (
	"bytes"
	"hash/crc32"
	"math"
	"strings"
	"testing"

	"loop.example/g00467/impl"
)

// oddText returns n bytes that include zero bytes and invalid UTF-8.
func oddText(n int) string {
	b := make([]byte, n)
	for i := range b {
		b[i] = byte(i * 37)
	}
	return string(b)
}

// tightSlice returns head with spare capacity that holds the bytes of tail.
func tightSlice(head, tail string) []byte {
	return []byte(head + tail)[:len(head)]
}

// expectUntouched fails if a call has changed b or its spare capacity, or if
// its result shares memory with b.
func expectUntouched(t *testing.T, b []byte, out []byte, whole string) {
	t.Helper()
	if got := string(b[:len(whole)]); got != whole {
		t.Errorf("argument and spare capacity became %x, want %x", got, whole)
	}
	out = out[:cap(out)]
	for i := range out {
		out[i] ^= 0xff
	}
	if got := string(b[:len(whole)]); got != whole {
		t.Error("the result shares memory with the argument")
	}
}

func expectNoWord(t *testing.T, b []byte, at int) {
	t.Helper()
	if n, next, ok := impl.GetW(b, at); n != 0 || next != 0 || ok {
		t.Errorf("GetW(%x, %d) = %d, %d, %v, want 0, 0, false", b, at, n, next, ok)
	}
}

func expectNoText(t *testing.T, b []byte, at int) {
	t.Helper()
	if s, next, ok := impl.GetText(b, at); s != "" || next != 0 || ok {
		t.Errorf("GetText(%x, %d) = %q, %d, %v, want \"\", 0, false", b, at, s, next, ok)
	}
}

func TestNameOkForEachByte(t *testing.T) {
	const allowed = "abcdefghijklmnopqrstuvwxyz0123456789"
	for i := range 256 {
		c := byte(i)
		want := strings.IndexByte(allowed, c) >= 0
		for _, s := range []string{string([]byte{c}), "a" + string([]byte{c}) + "b", "vol00" + string([]byte{c})} {
			if got := impl.NameOk(s); got != want {
				t.Errorf("NameOk(%q) = %v, want %v", s, got, want)
			}
		}
	}
}

func TestNameOkForEachLength(t *testing.T) {
	for n := range 80 {
		want := n >= 1 && n <= 6
		if got := impl.NameOk(strings.Repeat("x", n)); got != want {
			t.Errorf("a name of %d characters: %v, want %v", n, got, want)
		}
	}
}

func TestNameOkRejectsOtherLetters(t *testing.T) {
	for _, s := range []string{"é", "ß", "ａ", "٣", "a\u0301", "\xff", "aé", "Ab", "a-b", "a_b", " a", "a ", "a\n", "a\x00"} {
		if impl.NameOk(s) {
			t.Errorf("NameOk(%q) = true", s)
		}
	}
}

func TestEachWordIsDecoded(t *testing.T) {
	for n := range 65536 {
		b := impl.PutW([]byte{1, 2, 3}, n)
		if len(b) != 5 || b[0] != 1 || b[1] != 2 || b[2] != 3 || b[3] != byte(n/256) || b[4] != byte(n%256) {
			t.Fatalf("PutW(%d) = %x", n, b)
		}
		if got, next, ok := impl.GetW(b, 3); got != n || next != 5 || !ok {
			t.Fatalf("GetW of %d = %d, %d, %v", n, got, next, ok)
		}
	}
}

func TestPutWKeepsLowBits(t *testing.T) {
	rows := []struct {
		n    int
		want string
	}{
		{0, "\x00\x00"},
		{65535, "\xff\xff"},
		{65536, "\x00\x00"},
		{65537, "\x00\x01"},
		{0x123456, "\x34\x56"},
		{-1, "\xff\xff"},
		{-2, "\xff\xfe"},
		{-65535, "\x00\x01"},
		{-65536, "\x00\x00"},
		{math.MaxInt, "\xff\xff"},
		{math.MinInt, "\x00\x00"},
		{math.MinInt + 258, "\x01\x02"},
	}
	for _, r := range rows {
		if got := string(impl.PutW(nil, r.n)); got != r.want {
			t.Errorf("PutW(nil, %d) = %x, want %x", r.n, got, r.want)
		}
	}
}

func TestPutWLeavesItsArgument(t *testing.T) {
	b := tightSlice("head", "spare")
	out := impl.PutW(b, 0x4142)
	if string(out) != "headAB" {
		t.Errorf("%q", out)
	}
	expectUntouched(t, b, out, "headspare")
}

func TestGetWRejectsOffsets(t *testing.T) {
	b := []byte{1, 2, 3, 4}
	for at := range 3 {
		if n, next, ok := impl.GetW(b, at); n != (at+1)*256+at+2 || next != at+2 || !ok {
			t.Errorf("GetW at %d = %d, %d, %v", at, n, next, ok)
		}
	}
	for _, at := range []int{-1, -2, -3, math.MinInt, math.MinInt + 1, 3, 4, 5, 1 << 40, math.MaxInt - 2, math.MaxInt - 1, math.MaxInt} {
		expectNoWord(t, b, at)
		expectNoWord(t, nil, at)
	}
	expectNoWord(t, nil, 0)
	expectNoWord(t, []byte{}, 0)
	expectNoWord(t, []byte{7}, 0)
}

func TestGetWStopsAtTheLength(t *testing.T) {
	expectNoWord(t, tightSlice("\x01", "\x02"), 0)
	expectNoWord(t, tightSlice("\x01\x02\x03", "\x04"), 2)
}

func TestEachTextLengthIsDecoded(t *testing.T) {
	for n := range 61 {
		s := oddText(n)
		b := impl.PutText([]byte("ab"), s)
		if want := "ab\x00" + string([]byte{byte(n)}) + s; string(b) != want {
			t.Fatalf("PutText of %d bytes = %x, want %x", n, b, want)
		}
		for _, rest := range []string{"", "z", "\x00\x01q"} {
			got, next, ok := impl.GetText([]byte(string(b)+rest), 2)
			if got != s || next != 4+n || !ok {
				t.Errorf("GetText of %d bytes = %q, %d, %v", n, got, next, ok)
			}
		}
	}
}

func TestPutTextRejectsLongStrings(t *testing.T) {
	// The low 16 bits of some of these lengths are at most 60.
	for _, n := range []int{61, 62, 100, 255, 256, 300, 65535, 65536, 65541, 65596, 131072} {
		for _, head := range []string{"", "ab"} {
			if got := impl.PutText([]byte(head), strings.Repeat("x", n)); string(got) != head {
				t.Errorf("PutText(%q) of %d bytes has %d bytes, want %q", head, n, len(got), head)
			}
		}
		if got := impl.PutText(nil, strings.Repeat("x", n)); len(got) != 0 {
			t.Errorf("PutText(nil) of %d bytes has %d bytes", n, len(got))
		}
	}
}

func TestPutTextCountsBytes(t *testing.T) {
	s := strings.Repeat("é", 30)
	if got, next, ok := impl.GetText(impl.PutText(nil, s), 0); got != s || next != 62 || !ok {
		t.Errorf("60 bytes in 30 characters: %q, %d, %v", got, next, ok)
	}
	if got := impl.PutText(nil, s+"a"); len(got) != 0 {
		t.Errorf("61 bytes in 31 characters: %x", got)
	}
}

func TestPutTextLeavesItsArgument(t *testing.T) {
	for _, s := range []string{"", "hi", oddText(60), oddText(61)} {
		whole := "head" + strings.Repeat("s", 90)
		b := tightSlice("head", whole[4:])
		expectUntouched(t, b, impl.PutText(b, s), whole)
	}
}

func TestGetTextRejectsTruncatedEncodings(t *testing.T) {
	for _, n := range []int{0, 1, 2, 59, 60} {
		b := impl.PutText([]byte("pre"), oddText(n))
		for cut := range len(b) {
			expectNoText(t, b[:cut:cut], 3)
			expectNoText(t, b[:cut], 3)
		}
	}
}

func TestGetTextRejectsLongLengths(t *testing.T) {
	rest := bytes.Repeat([]byte("x"), 70000)
	for _, n := range []int{61, 62, 255, 256, 300, 0x3c00, 65535} {
		expectNoText(t, append(impl.PutW(nil, n), rest...), 0)
	}
	full := append(impl.PutW(nil, 60), rest...)
	if s, next, ok := impl.GetText(full, 0); s != strings.Repeat("x", 60) || next != 62 || !ok {
		t.Errorf("a length of 60: %q, %d, %v", s, next, ok)
	}
}

func TestGetTextRejectsOffsets(t *testing.T) {
	b := impl.PutText(nil, "hi")
	for _, at := range []int{-1, -2, -4, math.MinInt, 1, 2, 3, 4, 5, 1 << 40, math.MaxInt - 2, math.MaxInt - 1, math.MaxInt} {
		expectNoText(t, b, at)
		expectNoText(t, nil, at)
	}
	expectNoText(t, nil, 0)
}

func TestGetTextCopiesItsBytes(t *testing.T) {
	b := impl.PutText(nil, "hello")
	s, _, _ := impl.GetText(b, 0)
	clear(b)
	if s != "hello" {
		t.Errorf("%q changes with the encoding", s)
	}
}

func TestMixedSequenceIsDecoded(t *testing.T) {
	b := impl.PutText(impl.PutW(impl.PutText(impl.PutW(nil, 60000), "vol1"), 7), "")
	n, at, ok := impl.GetW(b, 0)
	if n != 60000 || at != 2 || !ok {
		t.Fatal(n, at, ok)
	}
	s, at, ok := impl.GetText(b, at)
	if s != "vol1" || at != 8 || !ok {
		t.Fatal(s, at, ok)
	}
	n, at, ok = impl.GetW(b, at)
	if n != 7 || at != 10 || !ok {
		t.Fatal(n, at, ok)
	}
	s, at, ok = impl.GetText(b, at)
	if s != "" || at != 12 || at != len(b) || !ok {
		t.Fatal(s, at, ok)
	}
}

func TestCrcOfKnownInputs(t *testing.T) {
	up := make([]byte, 32)
	down := make([]byte, 32)
	for i := range 32 {
		up[i], down[31-i] = byte(i), byte(i)
	}
	rows := []struct {
		b    []byte
		want int
	}{
		{nil, 0},
		{[]byte{}, 0},
		{[]byte("a"), 0xC1D04330},
		{[]byte("123456789"), 0xE3069283},
		{make([]byte, 32), 0x8A9136AA},
		{bytes.Repeat([]byte{0xff}, 32), 0x62A8AB43},
		{up, 0x46DD794E},
		{down, 0x113FDB5C},
	}
	for _, r := range rows {
		if got := impl.Crc(r.b); got != r.want {
			t.Errorf("Crc(%x) = %x, want %x", r.b, got, r.want)
		}
	}
}

func TestCrcAgainstTheLibrary(t *testing.T) {
	if crc32.Castagnoli != 2197175160 {
		t.Fatal("another polynomial")
	}
	table := crc32.MakeTable(crc32.Castagnoli)
	long := oddText(2000)
	for n := range len(long) {
		b := []byte(long[:n])
		if got, want := impl.Crc(b), int(crc32.Checksum(b, table)); got != want {
			t.Fatalf("Crc of %d bytes = %x, want %x", n, got, want)
		}
		if string(b) != long[:n] {
			t.Fatal("Crc changed its argument")
		}
	}
	for i := range 256 {
		b := []byte{byte(i)}
		if got, want := impl.Crc(b), int(crc32.Checksum(b, table)); got != want {
			t.Fatalf("Crc(%x) = %x, want %x", b, got, want)
		}
	}
}

func TestCrcStopsAtTheLength(t *testing.T) {
	if got := impl.Crc(tightSlice("a", "bc")); got != 0xC1D04330 {
		t.Errorf("%x", got)
	}
}
