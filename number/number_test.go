package number

import (
	"math"
	"strconv"
	"strings"
	"testing"
)

func TestReadTakesBack(t *testing.T) {
	for _, want := range []int{0, 1, 9, 10, 99, 100, -1, -9, -10, math.MaxInt, math.MinInt} {
		if n, ok := Read(strconv.Itoa(want)); n != want || !ok {
			t.Errorf("%d: %d, %v", want, n, ok)
		}
	}
}

func TestReadRefuses(t *testing.T) {
	greatest := strconv.Itoa(math.MaxInt)
	for _, s := range []string{"", "-", "+", "+1", "+0", "-0", "00", "01", "-01", " 1", "1 ", "1\n", "1_0", "0x1", "1e1", "1.0", "x", "1x", "\u0661", greatest + "0", "-" + greatest + "0", strings.Repeat("1", 20000)} {
		if n, ok := Read(s); n != 0 || ok {
			t.Errorf("%.30q: %d, %v", s, n, ok)
		}
	}
}
