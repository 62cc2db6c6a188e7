package desk_test

import (
	"math/rand"
	"strconv"
	"strings"
	"testing"

	"wireward/api"
	"wireward/match"
	"wireward/net"
	"wireward/ring"
	"wireward/verdict"
)

// greatNet is one whose sets need many nodes; it was found by going from nets to
// others by chance, to such as need more.
const greatNet = `host b 11
fire c
permit 0-2,7-8,10-13,15 * 0,2,8-9,12-13 0,5-7
permit * 1,3,5 2-3,12 1,3-7
permit 0,3,5,7,9-12,15 2-3,5 0,2,4,6-7,9,11 0,2,6
permit 2,6,9,12-13,15 * * 0-1,3,5-6
deny 2,5-7,9,12 * 1-3,7-8,10,15 1,3,7
deny * * 1-2,7-9,11-14 *
permit * 0-2,4,7 * *
nat d 6 1,4,5
host e 0
nat f 9 3,5,6
router g
permit * 1-7 0,2,4-7,9-14 4-6
permit * 3-4,6 3-4,6-9,11,13-15 0-1,3-5,7
deny 1,5-6,9,12-15 * * *
permit * * 0-2,4-6,8,10,12,14-15 0-1,6
deny 0-2,4,6,10,13-15 0,4,6 * 0,2,5,7
deny 0-1,5,7,10-14 1-2,5-7 1-2,6-8,10-15 *
permit * 0,4,7 * 1,3-4,7
deny 5,8,10-12,14 1,4-5,7 0-1,4-5,8,10,12-13 0-2,4-7
route 8/3 0
route 2/3 3
route 12/2 0
route 0/1 0
route 0/0 2
route 8/1 1
lb h 10 4,14,9
lb i 14 6,0
router j
permit 3,6,8-9,11-15 2,4-6 1,3,5-6,9,12-14 0-1,3,6-7
deny 2-3,5,7,10-11,13,15 0-3,5,7 * 2,4-6
deny * 3,5 0,3,5,7,10-11,14-15 *
deny * 0-1,6 * 0-1,3,5
permit * * * *
route 0/0 3
route 14/3 3
route 8/2 0
route 4/3 1
route 7/4 2
route 8/1 2
route 0/2 2
route 10/4 3
link g 1 h 0
link g 2 c 1
link d 1 f 0
link i 1 j 3
link b 0 j 1
link g 3 j 2
link c 0 e 0
link g 0 i 0
link j 0 f 1
link h 1 d 0
`

// P25: diagrams may have many nodes when it is asked whether a packet can come.
func TestRoomOfAsk(t *testing.T) {
	n, _, e := net.Parse(greatNet)
	if e != api.OK {
		t.Fatal(e)
	}
	for _, host := range []string{"b", "e"} {
		if _, e := verdict.Ask(n, host, match.All(), 1000); e != api.ErrFull {
			t.Error(host, "needs few nodes", e)
		}
		v, e := verdict.Ask(n, host, match.All(), api.MaxNodes)
		if e != api.OK {
			t.Fatal(host, e)
		}
		want, _, _ := strings.Cut(verdict.Print(v), ",")
		isBehind(t, greatNet, "ask "+host+" * * * *", want+"\n")
	}
}

// anyRules is lines of so many rules, and of one for what they don't have.
func anyRules(r *rand.Rand, n int) string {
	var b strings.Builder
	set := func(most int) string {
		first := r.Intn(most)
		return strconv.Itoa(first) + "-" + strconv.Itoa(first+r.Intn(most-first)) + "," + strconv.Itoa(r.Intn(most))
	}
	for i := range n {
		b.WriteString([]string{"deny ", "permit "}[i%2])
		b.WriteString(set(16) + " " + set(8) + " " + set(16) + " " + set(8) + "\n")
	}
	return b.String() + "permit * * * *\n"
}

// greatCircle is routers of which each leads to the next one, and some to
// others, too.
func greatCircle() string {
	r := rand.New(rand.NewSource(1))
	var devices, links strings.Builder
	link := func(from, port, to, at int) {
		name := func(i int) string { return "r" + strconv.Itoa(i%api.MaxDevices) }
		links.WriteString("link " + name(from) + " " + strconv.Itoa(port) + " " + name(to) + " " + strconv.Itoa(at) + "\n")
	}
	for i := range api.MaxDevices {
		devices.WriteString("router r" + strconv.Itoa(i) + "\n" + anyRules(r, api.MaxRules-1))
		devices.WriteString("route 0/0 1\nroute " + strconv.Itoa(2*r.Intn(8)) + "/3 2\n")
		link(i, 1, i+1, 0)
		if i%2 == 0 {
			link(i, 2, i+3, 3)
		}
	}
	return devices.String() + links.String()
}

// P25: diagrams may have many nodes when packets that go round are counted.
func TestRoomOfRings(t *testing.T) {
	text := greatCircle()
	n, _, e := net.Parse(text)
	if e != api.OK {
		t.Fatal(e)
	}
	if _, e := ring.All(n, 800); e != api.ErrFull {
		t.Error("needs few nodes", e)
	}
	counts, e := ring.All(n, api.MaxNodes)
	if e != api.OK {
		t.Fatal(e)
	}
	var words []string
	for _, count := range counts {
		words = append(words, strconv.Itoa(count))
	}
	isBehind(t, text, "rings", strings.Join(words, " ")+"\n")
}
