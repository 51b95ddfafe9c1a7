package tests

import (
	"bytes"
	"math"
	"testing"

	"loop.example/g00467/impl"
)

// within reports whether n is in the range low to high.
func within(n, low, high int) bool {
	return low <= n && n <= high
}

// validKey states the ranges of chapter 3 in numbers.
func validKey(k impl.Key) bool {
	cells, gens := 0, 0
	if k.Kind == 1 {
		cells, gens = 23, 999
	}
	return within(k.Blk, 0, 15) && within(k.Age, 1, 60) && within(k.Kind, 0, 2) &&
		within(k.Cell, 0, cells) && within(k.Gen, 0, gens)
}

// keyBytes returns the encoding of k, computed without the program.
func keyBytes(k impl.Key) []byte {
	return []byte{byte(k.Blk), byte(k.Age), byte(k.Kind), byte(k.Cell), byte(k.Gen / 256), byte(k.Gen % 256)}
}

func expectNoKey(t *testing.T, b []byte, at int) {
	t.Helper()
	if k, next, ok := impl.GetKey(b, at); k != (impl.Key{}) || next != 0 || ok {
		t.Errorf("GetKey(%x, %d) = %v, %d, %v, want the zero Key, 0, false", b, at, k, next, ok)
	}
}

// expectCoded fails unless PutKey and GetKey treat k as its validity requires.
func expectCoded(t *testing.T, k impl.Key) {
	t.Helper()
	if got := impl.KeyOk(k); got != validKey(k) {
		t.Errorf("KeyOk(%v) = %v, want %v", k, got, validKey(k))
	}
	head := []byte{1, 2, 3}
	b := impl.PutKey(head, k)
	if !validKey(k) {
		if !bytes.Equal(b, head) {
			t.Errorf("PutKey of the invalid key %v = %x, want %x", k, b, head)
		}
		return
	}
	if want := append(head, keyBytes(k)...); !bytes.Equal(b, want) {
		t.Errorf("PutKey(%v) = %x, want %x", k, b, want)
		return
	}
	if got, next, ok := impl.GetKey(b, 3); got != k || next != 9 || !ok {
		t.Errorf("GetKey of %v = %v, %d, %v", k, got, next, ok)
	}
}

// sampleKeys returns valid keys of all kinds with the ends of all ranges.
func sampleKeys() []impl.Key {
	return []impl.Key{
		{Blk: 0, Age: 1, Kind: impl.KNone},
		{Blk: 15, Age: 60, Kind: impl.KNone},
		{Blk: 0, Age: 1, Kind: impl.KData},
		{Blk: 15, Age: 60, Kind: impl.KData, Cell: 23, Gen: 999},
		{Blk: 0, Age: 60, Kind: impl.KData, Cell: 0, Gen: 999},
		{Blk: 15, Age: 1, Kind: impl.KData, Cell: 23, Gen: 0},
		{Blk: 7, Age: 30, Kind: impl.KData, Cell: 11, Gen: 0x0203},
		{Blk: 0, Age: 1, Kind: impl.KGone},
		{Blk: 15, Age: 60, Kind: impl.KGone},
	}
}

// fieldsOf returns pointers to the fields of k.
func fieldsOf(k *impl.Key) []*int {
	return []*int{&k.Blk, &k.Age, &k.Kind, &k.Cell, &k.Gen}
}

func TestKeyConstants(t *testing.T) {
	if impl.KNone != 0 || impl.KData != 1 || impl.KGone != 2 || impl.MaxBlk != 15 || impl.MaxAge != 60 {
		t.Error("the constants of chapter 3 have other values")
	}
}

func TestEachPositionAndKindIsCoded(t *testing.T) {
	for blk := -1; blk <= 16; blk++ {
		for age := -1; age <= 61; age++ {
			for kind := -1; kind <= 3; kind++ {
				expectCoded(t, impl.Key{Blk: blk, Age: age, Kind: kind})
			}
			expectCoded(t, impl.Key{Blk: blk, Age: age, Kind: impl.KData, Cell: 23, Gen: 999})
		}
	}
}

func TestEachCellAndGenIsCoded(t *testing.T) {
	for cell := -1; cell <= 24; cell++ {
		for gen := -1; gen <= 1000; gen++ {
			for kind := range 3 {
				expectCoded(t, impl.Key{Blk: 3, Age: 7, Kind: kind, Cell: cell, Gen: gen})
			}
		}
	}
}

func TestKeyFieldsOutOfRange(t *testing.T) {
	// The low bits of most of these are in range.
	values := []int{
		math.MinInt, math.MinInt + 1, -65536, -65535, -256, -255, -1, 16, 24, 61, 255, 256, 257, 258,
		1000, 1001, 65535, 65536, 65537, 65538, 1 << 32, 1<<32 + 1, math.MaxInt - 1, math.MaxInt,
	}
	for _, k := range sampleKeys() {
		expectCoded(t, k)
		for field := range fieldsOf(&k) {
			for _, n := range values {
				changed := k
				*fieldsOf(&changed)[field] = n
				expectCoded(t, changed)
			}
		}
	}
}

func TestKeyOkWithoutACell(t *testing.T) {
	for _, kind := range []int{impl.KNone, impl.KGone} {
		if !impl.KeyOk(impl.Key{Blk: 2, Age: 5, Kind: kind}) {
			t.Errorf("kind %d: a key without a cell is valid", kind)
		}
		for _, k := range []impl.Key{{Cell: 1}, {Cell: 23}, {Cell: -1}, {Gen: 1}, {Gen: 999}, {Gen: -1}, {Cell: 1, Gen: 1}, {Cell: 1, Gen: -1}} {
			k.Blk, k.Age, k.Kind = 2, 5, kind
			if impl.KeyOk(k) {
				t.Errorf("kind %d: KeyOk(%v) = true", kind, k)
			}
			if got := impl.PutKey([]byte("ab"), k); string(got) != "ab" {
				t.Errorf("kind %d: PutKey(%v) = %x", kind, k, got)
			}
		}
	}
}

func TestGetKeyOfCellsWithoutData(t *testing.T) {
	for _, kind := range []byte{impl.KNone, impl.KGone} {
		b := []byte{2, 5, kind, 0, 0, 0}
		if k, next, ok := impl.GetKey(b, 0); k != (impl.Key{Blk: 2, Age: 5, Kind: int(kind)}) || next != 6 || !ok {
			t.Errorf("GetKey(%x) = %v, %d, %v", b, k, next, ok)
		}
		for i := 3; i < 6; i++ {
			for n := 1; n < 256; n++ {
				bad := bytes.Clone(b)
				bad[i] = byte(n)
				expectNoKey(t, bad, 0)
			}
		}
	}
}

// expectDecoded fails unless GetKey decodes the six bytes b exactly if they
// encode a valid key.
func expectDecoded(t *testing.T, b []byte) {
	t.Helper()
	want := impl.Key{Blk: int(b[0]), Age: int(b[1]), Kind: int(b[2]), Cell: int(b[3]), Gen: int(b[4])*256 + int(b[5])}
	if !validKey(want) {
		expectNoKey(t, b, 0)
		return
	}
	if k, next, ok := impl.GetKey(b, 0); k != want || next != 6 || !ok {
		t.Errorf("GetKey(%x) = %v, %d, %v, want %v, 6, true", b, k, next, ok, want)
	}
}

func TestGetKeyForEachByte(t *testing.T) {
	for _, k := range sampleKeys() {
		for i := range 6 {
			for n := range 256 {
				b := keyBytes(k)
				b[i] = byte(n)
				expectDecoded(t, b)
			}
		}
	}
}

func TestGetKeyForEachGeneration(t *testing.T) {
	for _, k := range sampleKeys() {
		for gen := range 65536 {
			b := keyBytes(k)
			b[4], b[5] = byte(gen/256), byte(gen%256)
			expectDecoded(t, b)
		}
	}
}

func TestGetKeyRejectsTruncatedEncodings(t *testing.T) {
	for _, k := range sampleKeys() {
		b := impl.PutKey([]byte("pre"), k)
		if len(b) != 9 {
			t.Fatalf("PutKey(%v) = %x", k, b)
		}
		for cut := range len(b) {
			// The rest of the encoding is in the spare capacity of the second one.
			expectNoKey(t, b[:cut:cut], 3)
			expectNoKey(t, b[:cut], 3)
		}
	}
}

func TestGetKeyRejectsOffsets(t *testing.T) {
	// Every offset at which six bytes begin has a valid key.
	b := bytes.Repeat([]byte{1}, 8)
	want := impl.Key{Blk: 1, Age: 1, Kind: impl.KData, Cell: 1, Gen: 257}
	for at := range 3 {
		if k, next, ok := impl.GetKey(b, at); k != want || next != at+6 || !ok {
			t.Errorf("GetKey at %d = %v, %d, %v", at, k, next, ok)
		}
	}
	for _, at := range []int{
		-1, -2, -5, -6, -7, math.MinInt, math.MinInt + 1, math.MinInt + 6, 3, 4, 7, 8, 9, 100, 1 << 40,
		math.MaxInt - 6, math.MaxInt - 5, math.MaxInt - 4, math.MaxInt - 1, math.MaxInt,
	} {
		expectNoKey(t, b, at)
		expectNoKey(t, nil, at)
	}
	expectNoKey(t, nil, 0)
	expectNoKey(t, []byte{}, 0)
}

func TestSequenceOfKeysIsDecoded(t *testing.T) {
	b := impl.PutW(nil, 9)
	for _, k := range sampleKeys() {
		b = impl.PutKey(impl.PutKey(b, k), impl.Key{Blk: 16, Age: 1})
	}
	b = impl.PutText(b, "end")
	at := 2
	for _, want := range sampleKeys() {
		k, next, ok := impl.GetKey(b, at)
		if k != want || next != at+6 || !ok {
			t.Fatalf("GetKey at %d = %v, %d, %v, want %v", at, k, next, ok, want)
		}
		at = next
	}
	if s, next, ok := impl.GetText(b, at); s != "end" || next != len(b) || !ok {
		t.Error(s, next, ok)
	}
}

func TestPutKeyLeavesItsArgument(t *testing.T) {
	for _, k := range append(sampleKeys(), impl.Key{}, impl.Key{Age: 1, Cell: 1}) {
		b := tightSlice("head", "sparecapacity")
		expectUntouched(t, b, impl.PutKey(b, k), "headsparecapacity")
	}
	for _, b := range [][]byte{nil, {}} {
		if got := impl.PutKey(b, impl.Key{}); len(got) != 0 {
			t.Errorf("PutKey of the zero Key = %x", got)
		}
	}
}

func TestGetKeyLeavesItsArgument(t *testing.T) {
	b := []byte{1, 1, 1, 1, 1, 1, 1, 1}
	for at := -1; at < 10; at++ {
		impl.GetKey(b, at)
	}
	if !bytes.Equal(b, bytes.Repeat([]byte{1}, 8)) {
		t.Errorf("%x", b)
	}
}

// placesInOrder returns blocks and versions in ascending order, some of them
// far outside their ranges.
func placesInOrder() [][2]int {
	ends := []int{math.MinInt, math.MinInt + 1, -65, -64, -1, 0, 1, 2, 15, 16, 60, 61, 63, 64, 65, 128, math.MaxInt - 1, math.MaxInt}
	var out [][2]int
	for _, blk := range ends {
		for _, age := range ends {
			out = append(out, [2]int{blk, age})
		}
	}
	return out
}

func TestOrderOfPositions(t *testing.T) {
	places := placesInOrder()
	for i, p := range places {
		for j, q := range places {
			a := impl.Key{Blk: p[0], Age: p[1], Kind: impl.KGone}
			b := impl.Key{Blk: q[0], Age: q[1], Kind: impl.KData, Cell: 4, Gen: 5}
			if got := impl.LessKey(a, b); got != (i < j) {
				t.Fatalf("LessKey(%v, %v) = %v", a, b, got)
			}
			if got := impl.SameSpot(a, b); got != (i == j) {
				t.Fatalf("SameSpot(%v, %v) = %v", a, b, got)
			}
		}
	}
}

func TestOrderIgnoresTheOtherFields(t *testing.T) {
	base := impl.Key{Blk: 4, Age: 9, Kind: impl.KData, Cell: 5, Gen: 6}
	for field := 2; field < 5; field++ {
		for _, n := range []int{math.MinInt, -1, 0, 1, 2, 3, 23, 999, math.MaxInt} {
			k := base
			*fieldsOf(&k)[field] = n
			if impl.LessKey(base, k) || impl.LessKey(k, base) || !impl.SameSpot(base, k) || !impl.SameSpot(k, base) {
				t.Errorf("%v and %v have the same position", base, k)
			}
			next := k
			next.Age++
			if !impl.LessKey(base, next) || impl.LessKey(next, base) || impl.SameSpot(base, next) {
				t.Errorf("%v is before %v", base, next)
			}
		}
	}
}
