package tests

import (
	"fmt"
	"math"
	"testing"

	"loop.example/g00467/impl"
)

func expectNumText(t *testing.T, n int, want string) {
	t.Helper()
	if got := impl.NumText(n); got != want {
		t.Errorf("NumText(%d) = %q, want %q", n, got, want)
	}
}

func TestNumText(t *testing.T) {
	expectNumText(t, 0, "0")
	expectNumText(t, 7, "7")
	expectNumText(t, 10, "10")
	expectNumText(t, 65535, "65535")
	expectNumText(t, 65536, "65536")
	expectNumText(t, -1, "-1")
	expectNumText(t, -10, "-10")
	expectNumText(t, math.MaxInt, "9223372036854775807")
	expectNumText(t, math.MinInt, "-9223372036854775808")
	for n := -70000; n <= 70000; n++ {
		expectNumText(t, n, fmt.Sprint(n))
	}
}

// TestNumTextOfPowers covers the numbers around each power of 10 and of 2.
func TestNumTextOfPowers(t *testing.T) {
	for _, base := range []int{2, 10} {
		for p := base; p > 0 && p <= math.MaxInt/base; p *= base {
			for _, n := range []int{p - 1, p, p + 1, 1 - p, -p, -p - 1} {
				expectNumText(t, n, fmt.Sprint(n))
			}
		}
	}
}
