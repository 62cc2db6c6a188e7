package match_test

import (
	"math"
	"math/rand"
	"sort"
	"strconv"
	"strings"
	"testing"

	"wireward/api"
	"wireward/match"
	"wireward/packet"
)

// wild are numbers in, at and beyond the bounds of every part.
var wild = []int{math.MinInt, -64, -16, -8, -1, 0, 1, 6, 7, 8, 9, 14, 15, 16, 17, 31, 32, 63, 64, 65, 256, math.MaxInt}

// numbers are those of a set, written apart from the package.
func numbers(set uint16) []int {
	var l []int
	for n := range 16 {
		if set&(1<<n) != 0 {
			l = append(l, n)
		}
	}
	return l
}

// wordOf is the word of a set of size numbers, written apart from Print: each
// number stands in a row with the one ahead, or begins one.
func wordOf(set uint16, size int) string {
	l := numbers(set)
	if len(l) == size {
		return "*"
	}
	if len(l) == 0 {
		return "-"
	}
	var firsts, lasts []int
	for _, n := range l {
		if k := len(lasts); k > 0 && lasts[k-1] == n-1 {
			lasts[k-1] = n
		} else {
			firsts, lasts = append(firsts, n), append(lasts, n)
		}
	}
	var rows []string
	for i := range firsts {
		row := strconv.Itoa(firsts[i])
		if lasts[i] > firsts[i] {
			row += "-" + strconv.Itoa(lasts[i])
		}
		rows = append(rows, row)
	}
	return strings.Join(rows, ",")
}

func textOf(m api.Match) string {
	return wordOf(m.Src, 16) + " " + wordOf(uint16(m.Sport), 8) + " " + wordOf(m.Dst, 16) + " " + wordOf(uint16(m.Dport), 8)
}

// has is In, written apart from the package.
func has(m api.Match, p api.Packet) bool {
	in := func(set uint16, n int) bool {
		for _, k := range numbers(set) {
			if k == n {
				return true
			}
		}
		return false
	}
	return in(m.Src, p.Src) && in(m.Dst, p.Dst) && in(uint16(m.Sport), p.Sport) && in(uint16(m.Dport), p.Dport)
}

// anyMatch has small, great, empty and whole sets.
func anyMatch(r *rand.Rand) api.Match {
	set := func() uint16 {
		switch r.Intn(12) {
		case 0:
			return 0
		case 1, 2:
			return math.MaxUint16
		case 3, 4:
			return 0x0101 << r.Intn(8)
		}
		return uint16(r.Intn(1 << 16))
	}
	return api.Match{Src: set(), Dst: set(), Sport: uint8(set()), Dport: uint8(set())}
}

func read(t *testing.T, s string) api.Match {
	t.Helper()
	m, e := match.Parse(s)
	if e != api.OK {
		t.Fatalf("%q: %v", s, e)
	}
	return m
}

// P6: All has all packets, and no other.
func TestAll(t *testing.T) {
	want := api.Match{Src: 0xffff, Dst: 0xffff, Sport: 0xff, Dport: 0xff}
	if m := match.All(); m != want {
		t.Error(m)
	}
	if s := match.Print(match.All()); s != "* * * *" {
		t.Error(s)
	}
	for code := range api.Packets {
		if p, _ := packet.Of(code); !match.In(match.All(), p) {
			t.Fatal(p)
		}
	}
}

// P6: each part is looked for in its own set.
func TestInParts(t *testing.T) {
	m := api.Match{Src: 1 << 1, Dst: 1 << 2, Sport: 1 << 3, Dport: 1 << 4}
	for _, c := range []struct {
		p    api.Packet
		want bool
	}{
		{api.Packet{Src: 1, Dst: 2, Sport: 3, Dport: 4}, true},
		{api.Packet{Src: 2, Dst: 1, Sport: 3, Dport: 4}, false},
		{api.Packet{Src: 1, Dst: 2, Sport: 4, Dport: 3}, false},
		{api.Packet{Src: 0, Dst: 2, Sport: 3, Dport: 4}, false},
		{api.Packet{Src: 1, Dst: 3, Sport: 3, Dport: 4}, false},
		{api.Packet{Src: 1, Dst: 2, Sport: 2, Dport: 4}, false},
		{api.Packet{Src: 1, Dst: 2, Sport: 3, Dport: 5}, false},
	} {
		if got := match.In(m, c.p); got != c.want {
			t.Error(c.p, got)
		}
	}
}

// P1, P6: a number that none may be is in none, not even in those of All.
func TestInWild(t *testing.T) {
	r := rand.New(rand.NewSource(3))
	matches := []api.Match{match.All(), {}}
	for range 8 {
		matches = append(matches, anyMatch(r))
	}
	pick := func() int { return wild[r.Intn(len(wild))] }
	for _, m := range matches {
		for range 3000 {
			p := api.Packet{Src: pick(), Dst: pick(), Sport: pick(), Dport: pick()}
			if got := match.In(m, p); got != has(m, p) {
				t.Fatal(m, p, got)
			}
		}
		for _, n := range wild {
			for _, p := range []api.Packet{{Src: n}, {Dst: n}, {Sport: n}, {Dport: n}} {
				if got := match.In(m, p); got != has(m, p) {
					t.Fatal(m, p, got)
				}
			}
		}
	}
}

// P6: all sets of addresses and of ports, as words and back, in each place.
func TestPrintAndParse(t *testing.T) {
	same := func(m api.Match) {
		t.Helper()
		s := match.Print(m)
		if s != textOf(m) {
			t.Fatalf("%v: %q, not %q", m, s, textOf(m))
		}
		if back := read(t, s); back != m {
			t.Fatalf("%q: %v, not %v", s, back, m)
		}
	}
	for set := range 1 << 16 {
		same(api.Match{Src: uint16(set), Dst: 1, Sport: 2, Dport: 4})
		same(api.Match{Src: 1, Dst: uint16(set), Sport: 2, Dport: 4})
	}
	for set := range 1 << 8 {
		same(api.Match{Src: 1, Dst: 2, Sport: uint8(set), Dport: 4})
		same(api.Match{Src: 1, Dst: 2, Sport: 4, Dport: uint8(set)})
	}
}

// P6: texts, written out.
func TestTexts(t *testing.T) {
	for _, c := range []struct {
		s    string
		m    api.Match
		want string // what Print tells of it
	}{
		{"1-3 * 0 -", api.Match{Src: 14, Sport: 255, Dst: 1}, "1-3 * 0 -"},
		{"- - - -", api.Match{}, "- - - -"},
		{"0 0 15 7", api.Match{Src: 1, Sport: 1, Dst: 1 << 15, Dport: 1 << 7}, "0 0 15 7"},
		{"0-15 0-7 0-14 1-7", api.Match{Src: 0xffff, Sport: 0xff, Dst: 0x7fff, Dport: 0xfe}, "* * 0-14 1-7"},
		{"1-2 1,3 14-15 6-7", api.Match{Src: 6, Sport: 10, Dst: 0xc000, Dport: 0xc0}, "1-2 1,3 14-15 6-7"},
		// in any order
		{"9,8,10 2,1 15,0 7,5,6", api.Match{Src: 0x700, Sport: 6, Dst: 0x8001, Dport: 0xe0}, "8-10 1-2 0,15 5-7"},
		// overlapping, and twice
		{"3-5,4-7,1 2,2 1-3,2 0-7,4", api.Match{Src: 0xfa, Sport: 4, Dst: 14, Dport: 255}, "1,3-7 2 1-3 *"},
		// parts of rows, and rows of one number
		{"1-2,3-4 5-5 0-7,8-15 0,1,2,3,4,5,6,7", api.Match{Src: 30, Sport: 32, Dst: 0xffff, Dport: 255}, "1-4 5 * *"},
	} {
		m := read(t, c.s)
		if m != c.m {
			t.Errorf("%q: %v", c.s, m)
		}
		if s := match.Print(m); s != c.want {
			t.Errorf("%q: %q", c.s, s)
		}
	}
}

// P6: rows in any order, overlapping, and parts of rows have the same match.
func TestOtherRows(t *testing.T) {
	r := rand.New(rand.NewSource(4))
	// word is one of the words of a set that it tells of, too.
	word := func(size int) (string, uint16) {
		set, rows := uint16(0), []string(nil)
		for range 1 + r.Intn(6) {
			row := []int{r.Intn(size), r.Intn(size)}
			sort.Ints(row)
			s := strconv.Itoa(row[0]) + "-" + strconv.Itoa(row[1])
			if r.Intn(3) == 0 {
				row[1] = row[0]
				s = strconv.Itoa(row[0])
			}
			for n := row[0]; n <= row[1]; n++ {
				set |= 1 << n
			}
			rows = append(rows, s)
		}
		return strings.Join(rows, ","), set
	}
	for range 3000 {
		src, a := word(16)
		sport, b := word(8)
		dst, c := word(16)
		dport, d := word(8)
		s := src + " " + sport + " " + dst + " " + dport
		want := api.Match{Src: a, Sport: uint8(b), Dst: c, Dport: uint8(d)}
		if m, e := match.Parse(s); m != want || e != api.OK {
			t.Fatalf("%q: %v %v, not %v", s, m, e, want)
		}
	}
}

// P6: words that are none, in each of the four places.
func TestNoWords(t *testing.T) {
	words := []string{
		"", ",", "1,", ",1", "1,,2", "1-", "-1", "--", "1--2", "1-2-3", "1-2-", "3-1", "15-0", "1,3-2",
		"**", "*,1", "1,*", "*-", "-,1", "1,-", "*-1", "1-*", "-,-", "0-*",
		"00", "01", "1-02", "01-2", "00-1", "+1", "1-+2", "a", "1a", "0x1", "1.", "1;2", "1/2", "1:2",
		"16", "0-16", "16-17", "100", "9999", "10000", "65536", "4294967296", "18446744073709551616",
		"0-18446744073709551617", "1\t", "1\n", "\n", "\x00", "1\x00", "\xff", "٣", "1, 2",
	}
	place := func(i int, w string) string {
		l := []string{"1", "2", "3", "4"}
		l[i] = w
		return strings.Join(l, " ")
	}
	refuses := func(s string) {
		t.Helper()
		if m, e := match.Parse(s); e != api.ErrSyntax || m != (api.Match{}) {
			t.Errorf("%q: %v %v", s, m, e)
		}
	}
	for i := range 4 {
		for _, w := range words {
			refuses(place(i, w))
		}
	}
	for _, w := range []string{"8", "0-8", "8-9", "7,8", "15", "8-15"} { // addresses, but no ports
		refuses(place(1, w))
		refuses(place(3, w))
		read(t, place(0, w))
		read(t, place(2, w))
	}
}

// P6: four words, one blank between, and nothing else.
func TestNoTexts(t *testing.T) {
	for _, s := range []string{
		"", " ", "   ", "    ", "*", "* *", "* * *", "* * * * *", "* * * * ", " * * * *", "*  * * *", "* * *  *",
		"*\t* * *", "* * * *\n", "*,*,*,*", "****", "* * *\x00*", "1 2 3", "1 2 3 4 5", "* * * ", " * * *",
	} {
		if m, e := match.Parse(s); e != api.ErrSyntax || m != (api.Match{}) {
			t.Errorf("%q: %v %v", s, m, e)
		}
	}
}

// P6: at most 300 bytes, whatever they are.
func TestLargeTexts(t *testing.T) {
	good := strings.Repeat("1,", (300-len("10 * * *"))/2) + "10 * * *"
	if len(good) != 300 {
		t.Fatal(len(good))
	}
	if m := read(t, good); m != read(t, "1,10 * * *") {
		t.Error(m)
	}
	for s, want := range map[string]api.Errno{
		strings.Repeat("x", 300):              api.ErrSyntax,
		strings.Repeat(" ", 300):              api.ErrSyntax,
		"1" + good:                            api.ErrLarge,
		strings.Repeat("x", 301):              api.ErrLarge,
		strings.Repeat("\x00", 100000):        api.ErrLarge,
		strings.Repeat("1,", 147) + "1 * * *": api.ErrLarge,
	} {
		if m, e := match.Parse(s); e != want || m != (api.Match{}) {
			t.Errorf("%d bytes: %v %v", len(s), m, e)
		}
	}
}

// FuzzParse: what is read is read again, as the same, from what is told of it.
func FuzzParse(f *testing.F) {
	for _, s := range []string{"* * * *", "3,1-2 0-7 - 5", "1-3 * 0 -", "1,,2 * * *", "* 8 * *", "", "16 * * *"} {
		f.Add(s)
	}
	f.Fuzz(func(t *testing.T, s string) {
		m, e := match.Parse(s)
		if e != api.OK {
			want := api.ErrSyntax
			if len(s) > 300 {
				want = api.ErrLarge
			}
			if e != want || m != (api.Match{}) {
				t.Fatal(m, e)
			}
			return
		}
		if strings.Trim(s, "0123456789,-* ") != "" || strings.Count(s, " ") != 3 || len(s) > 300 {
			t.Fatalf("%q was read", s)
		}
		if back, e := match.Parse(match.Print(m)); back != m || e != api.OK {
			t.Fatal(back, e)
		}
	})
}
