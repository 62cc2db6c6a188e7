package match

import (
	"strconv"
	"strings"

	"wireward/api"
	"wireward/bdd"
	"wireward/number"
)

// set has numbers from 0 to size - 1: n is in it, if bit n is 1.
type set struct{ bits, size int }

func addrs(bits uint16) set { return set{int(bits), api.Addrs} }

func ports(bits uint8) set { return set{int(bits), api.PortsOf} }

func (s set) has(n int) bool { return n >= 0 && s.bits>>n&1 == 1 }

func (s set) print() string {
	switch s.bits {
	case 1<<s.size - 1:
		return "*"
	case 0:
		return "-"
	}
	var rows []string
	for n := 0; n < s.size; n++ {
		if !s.has(n) {
			continue
		}
		first := n
		for s.has(n + 1) {
			n++
		}
		rows = append(rows, printRow(first, n))
	}
	return strings.Join(rows, ",")
}

func printRow(first, last int) string {
	if first == last {
		return strconv.Itoa(first)
	}
	return strconv.Itoa(first) + "-" + strconv.Itoa(last)
}

func parseSet(s string, size int) (set, bool) {
	switch s {
	case "*":
		return set{1<<size - 1, size}, true
	case "-":
		return set{0, size}, true
	}
	bits := 0
	for _, row := range strings.Split(s, ",") {
		first, last, ok := parseRow(row)
		if !ok || first > last || last >= size {
			return set{}, false
		}
		bits |= 1<<(last+1) - 1<<first
	}
	return set{bits, size}, true
}

func parseRow(s string) (first, last int, ok bool) {
	a, b, two := strings.Cut(s, "-")
	if !two {
		b = a
	}
	first, okFirst := number.Parse(a)
	last, okLast := number.Parse(b)
	return first, last, okFirst && okLast
}

// build is the function that is rest where the variables from first on, read
// as a number, highest bit first, are in s, and never true elsewhere.
func (s set) build(a *bdd.Arena, first, rest int) (int, api.Errno) {
	if s.size == 1 {
		if s.has(0) {
			return rest, api.OK
		}
		return bdd.Never, api.OK
	}
	half := s.size / 2
	low, e := set{s.bits & (1<<half - 1), half}.build(a, first+1, rest)
	if e != api.OK {
		return 0, e
	}
	high, e := set{s.bits >> half, half}.build(a, first+1, rest)
	if e != api.OK {
		return 0, e
	}
	return a.Node(first, low, high)
}
