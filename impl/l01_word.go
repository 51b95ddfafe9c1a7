package impl

const (
	maxName    = 6
	maxText    = 60
	maxWord    = 65535
	crcPoly    = 2197175160
	crcAllBits = 4294967295
)

// NameOk reports whether s is a name: 1 to 6 lower-case letters or digits.
func NameOk(s string) bool {
	if len(s) < 1 || len(s) > maxName {
		return false
	}
	for i := range len(s) {
		if !nameByte(s[i]) {
			return false
		}
	}
	return true
}

func nameByte(c byte) bool {
	return 'a' <= c && c <= 'z' || '0' <= c && c <= '9'
}

func wordOk(n int) bool {
	return n >= 0 && n <= maxWord
}

// PutW returns b followed by the low 16 bits of n.
func PutW(b []byte, n int) []byte {
	return putWords(b, n)
}

// putWords builds a new slice because append could write into the spare
// capacity of b, which belongs to the caller.
func putWords(b []byte, words ...int) []byte {
	out := make([]byte, 0, len(b)+2*len(words))
	out = append(out, b...)
	for _, n := range words {
		out = append(out, byte(n>>8), byte(n))
	}
	return out
}

// GetW decodes the word at offset at and returns it and the offset after it.
func GetW(b []byte, at int) (int, int, bool) {
	// The subtraction is on the side of the length because at+2 may overflow.
	if at < 0 || at > len(b)-2 {
		return 0, 0, false
	}
	return int(b[at])<<8 | int(b[at+1]), at + 2, true
}

// PutText returns b followed by the length and the bytes of s, or a copy of b
// if s is too long.
func PutText(b []byte, s string) []byte {
	// The whole length is compared: its low 16 bits may be small.
	if len(s) > maxText {
		return putWords(b)
	}
	return append(putWords(b, len(s)), s...)
}

// GetText decodes the string at offset at and returns it and the offset after
// it.
func GetText(b []byte, at int) (string, int, bool) {
	n, start, ok := GetW(b, at)
	if !ok || n > maxText || n > len(b)-start {
		return "", 0, false
	}
	return string(b[start : start+n]), start + n, true
}

// Crc returns the 32-bit cyclic redundancy check of b. It needs no table: the
// inputs are short.
func Crc(b []byte) int {
	reg := uint32(crcAllBits)
	for _, c := range b {
		reg = crcByte(reg, c)
	}
	return int(^reg)
}

func crcByte(reg uint32, c byte) uint32 {
	reg ^= uint32(c)
	for range 8 {
		out := reg & 1
		reg >>= 1
		if out == 1 {
			reg ^= crcPoly
		}
	}
	return reg
}
