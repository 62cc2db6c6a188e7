package number_test

import (
	"strconv"
	"testing"

	"wireward/number"
)

// What holds everywhere: numbers are decimal, one to four digits.
func TestNumbers(t *testing.T) {
	for want := range 10000 {
		if n, ok := number.Parse(strconv.Itoa(want)); !ok || n != want {
			t.Error(want, n, ok)
		}
	}
}

func TestNoNumbers(t *testing.T) {
	for _, s := range []string{
		"", " ", "00", "01", "0000", "0001", "00001", "10000", "99999999999999999999",
		"+1", "-1", "-0", " 1", "1 ", "1.", "0x1", "1_0", "a", "1a", "a1", "/", ":", "1/", "1:",
		"\x00", "1\x00", "\n", "1\n", "\xff", "٣", "１",
	} {
		if n, ok := number.Parse(s); ok || n != 0 {
			t.Errorf("%q: %d %v", s, n, ok)
		}
	}
}
