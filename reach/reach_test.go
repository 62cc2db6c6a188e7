package reach_test

import (
	"fmt"
	"math"
	"reflect"
	"slices"
	"sync"
	"testing"

	"wireward/api"
	"wireward/bdd"
	"wireward/match"
	"wireward/net"
	"wireward/packet"
	"wireward/reach"
)

// wild are numbers in, at and beyond the bounds of every part.
var wild = []int{
	math.MinInt, math.MinInt + 1, -1 << 32, -64, -8, -1, 0, 1, 2, 3, 4, 5, 7, 8, 9, 10, 15, 16, 31, 32, 63, 64,
	255, 256, 1 << 16, 1 << 32, 1<<32 + 1, math.MaxInt - 1, math.MaxInt,
}

// readNet is the net of a text.
func readNet(t *testing.T, s string) api.Net {
	t.Helper()
	n, at, e := net.Parse(s)
	if e != api.OK {
		t.Fatal(s, at, e)
	}
	return n
}

func read(t *testing.T, s string) api.Packet {
	t.Helper()
	p, e := packet.Parse(s)
	if e != api.OK {
		t.Fatal(s, e)
	}
	return p
}

func readMatch(t *testing.T, s string) api.Match {
	t.Helper()
	m, e := match.Parse(s)
	if e != api.OK {
		t.Fatal(s, e)
	}
	return m
}

func fresh(t *testing.T, n api.Net) *reach.Reach {
	t.Helper()
	r, e := reach.New(n, api.MaxNodes)
	if e != api.OK || r == nil {
		t.Fatal(r, e)
	}
	return r
}

// chain is a host with address 1, a device d of so many lines, and a host with
// address 2, as a text.
func chain(lines string) string {
	return "host a 1\n" + lines + "host b 2\nlink a 0 d 0\nlink d 1 b 0\n"
}

// The places of a chain.
var (
	left  = api.Place{Device: 0}
	in    = api.Place{Device: 1}
	out   = api.Place{Device: 1, Port: 1}
	right = api.Place{Device: 2}
)

// all are all packets, by their codes.
func all(t *testing.T) []api.Packet {
	t.Helper()
	l := make([]api.Packet, api.Packets)
	for code := range l {
		p, e := packet.Of(code)
		if e != api.OK {
			t.Fatal(code, e)
		}
		l[code] = p
	}
	return l
}

// come holds what comes to a place, each with its round, against matches: of a
// packet the first one that has it tells its round, and those that none has
// don't come.
func come(t *testing.T, r *reach.Reach, at api.Place, want ...any) {
	t.Helper()
	var matches []api.Match
	for i := 0; i < len(want); i += 2 {
		matches = append(matches, readMatch(t, want[i].(string)))
	}
	count := 0
	for _, p := range all(t) {
		round := -1
		if i := slices.IndexFunc(matches, func(m api.Match) bool { return match.In(m, p) }); i >= 0 {
			round = want[2*i+1].(int)
		}
		if got := r.Round(at, p); got != round {
			t.Fatal(at, p, got, "not", round)
		}
		if round >= 0 {
			count++
		}
	}
	if got := r.Count(at); got != count {
		t.Error(at, got, "not", count)
	}
}

func rounds(t *testing.T, r *reach.Reach, want int) {
	t.Helper()
	if got := r.Rounds(); got != want {
		t.Error(got, "rounds, not", want)
	}
}

// P17: what hosts send, where they send it; and that they send nothing on.
func TestHosts(t *testing.T) {
	rounds(t, fresh(t, api.Net{}), 0)
	n := readNet(t, "host a 1\nhost b 15\nhost c 0\nrouter d\nlink b 0 a 0\n")
	r := fresh(t, n)
	rounds(t, r, 0)
	come(t, r, api.Place{Device: 0}, "15 * * *", 0)
	come(t, r, api.Place{Device: 1}, "1 * * *", 0)
	come(t, r, api.Place{Device: 2})
	for port := range 4 {
		come(t, r, api.Place{Device: 3, Port: port})
	}
}

// P17: a router's routes and rules, at each of its ports.
func TestRouter(t *testing.T) {
	r := fresh(t, readNet(t, chain("router d\ndeny * 3 * *\npermit 1-2 * 2,9 *\nroute 0/0 1\nroute 8/1 0\n")))
	rounds(t, r, 1)
	come(t, r, in, "1 * * *", 0)
	come(t, r, out, "2 * * *", 0)
	come(t, r, right, "1-2 0-2,4-7 2 *", 1)
	come(t, r, left, "1-2 0-2,4-7 9 *", 1)
	// without a rule nothing is let through, without a route nothing goes out
	for _, lines := range []string{"router d\nroute 0/0 1\n", "router d\npermit * * * *\n", "router d\npermit * * * *\nroute 0/0 2\n"} {
		r := fresh(t, readNet(t, chain(lines)))
		rounds(t, r, 0)
		come(t, r, left)
		come(t, r, right)
	}
	// a host behind each port, and one port that leads nowhere
	r = fresh(t, readNet(t, "router d\npermit * * * *\nroute 0/2 0\nroute 4/2 1\nroute 8/2 2\nroute 12/2 3\n"+
		"host a 1\nhost b 2\nhost c 3\nlink a 0 d 0\nlink b 0 d 1\nlink c 0 d 3\n"))
	come(t, r, api.Place{Device: 1}, "1-3 * 0-3 *", 1)
	come(t, r, api.Place{Device: 2}, "1-3 * 4-7 *", 1)
	come(t, r, api.Place{Device: 3}, "1-3 * 12-15 *", 1)
	come(t, r, api.Place{Device: 0, Port: 2})
}

// P17: a firewall lets in only answers to what it let out.
func TestFire(t *testing.T) {
	r := fresh(t, readNet(t, chain("fire d\ndeny * 3 * *\npermit * * 2,4 *\n")))
	rounds(t, r, 1)
	come(t, r, in, "1 * * *", 0)
	come(t, r, out, "2 * * *", 0)
	come(t, r, right, "1 0-2,4-7 2,4 *", 1)
	come(t, r, left, "2 * 1 0-2,4-7", 1)
	// who isn't let out isn't answered
	r = fresh(t, readNet(t, chain("fire d\npermit 2 * * *\n")))
	rounds(t, r, 0)
	come(t, r, left)
	come(t, r, right)
	// nobody asks
	r = fresh(t, readNet(t, "host a 1\nfire d\npermit * * * *\nhost b 2\nlink d 1 b 0\n"))
	rounds(t, r, 0)
	come(t, r, out, "2 * * *", 0)
	// nobody can be asked
	r = fresh(t, readNet(t, "host a 1\nfire d\npermit * * * *\nhost b 2\nlink d 0 a 0\n"))
	rounds(t, r, 0)
	come(t, r, left)
}

// P17: an answer is let in a round behind the later of question and answer.
func TestAnswerWaits(t *testing.T) {
	route := "permit * * * *\nroute 0/0 1\nroute 1/4 0\n"
	r := fresh(t, readNet(t, "host a 1\nrouter q\n"+route+"router s\n"+route+"fire f\npermit * * * *\nhost b 2\n"+
		"link a 0 q 0\nlink q 1 s 0\nlink s 1 f 0\nlink f 1 b 0\n"))
	rounds(t, r, 5)
	f0, f1, host, end := api.Place{Device: 3}, api.Place{Device: 3, Port: 1}, api.Place{}, api.Place{Device: 4}
	come(t, r, f0, "1 * 0,2-15 *", 2)
	come(t, r, f1, "2 * * *", 0)
	come(t, r, end, "1 * 0,2-15 *", 3)
	come(t, r, api.Place{Device: 2, Port: 1}, "2 * 1 *", 3)
	come(t, r, api.Place{Device: 1, Port: 1}, "2 * 1 *", 4)
	come(t, r, host, "2 * 1 *", 5, "1 * 1 *", 1)
}

// P17: a nat sends with its own address and each port of its pool, and what
// comes to one of these to each that sent something.
func TestNat(t *testing.T) {
	r := fresh(t, readNet(t, chain("nat d 9 1,2,7\n")))
	rounds(t, r, 1)
	come(t, r, right, "9 1-2,7 * *", 1)
	come(t, r, left, "2 * 1 *", 1)
	// only some may send, and only to some
	n := readNet(t, "host a 1\nrouter q\npermit * 3-4 6 0\nroute 0/0 1\nnat d 9 5\nrouter s\npermit 2 1 9 5\nroute 9/4 0\nhost b 2\n"+
		"link a 0 q 0\nlink q 1 d 0\nlink d 1 s 0\nlink s 1 b 0\n")
	r = fresh(t, n)
	rounds(t, r, 2)
	come(t, r, api.Place{Device: 3}, "9 5 6 0", 2)
	come(t, r, api.Place{Device: 1, Port: 1}, "2 1 1 3-4", 2)
	// another port, or another address, than what the nat has
	for _, rule := range []string{"permit 2 * 9 0-4,6-7\n", "permit 2 * 0-8,10-15 5\n"} {
		r := fresh(t, readNet(t, "host a 1\nnat d 9 5\nrouter s\n"+rule+"route 0/0 0\nhost b 2\nlink a 0 d 0\nlink d 1 s 0\nlink s 1 b 0\n"))
		come(t, r, api.Place{Device: 0})
		if r.Count(api.Place{Device: 1, Port: 1}) == 0 {
			t.Error("nothing was tried")
		}
	}
	// nobody sends: there is no owner
	r = fresh(t, readNet(t, "host a 1\nnat d 9 5\nhost b 2\nrouter e\nlink e 0 d 0\nlink d 1 b 0\n"))
	rounds(t, r, 0)
	come(t, r, api.Place{Device: 3})
	// nobody is sent to
	r = fresh(t, readNet(t, "host a 1\nnat d 9 5\nlink a 0 d 0\n"))
	rounds(t, r, 0)
	come(t, r, api.Place{Device: 0})
}

// P17: a balancer sends what is for itself to each back, and answers of backs
// as they are and as its own.
func TestBalancer(t *testing.T) {
	r := fresh(t, readNet(t, chain("lb d 5 2,7\n")))
	rounds(t, r, 1)
	come(t, r, right, "1 * 0-4,6-15 *", 1)
	come(t, r, left, "2 * * *", 1, "5 * 1 *", 1)
	// only questions for the balancer itself, and only from some ports
	ask := "host a 1\nrouter q\npermit 1 3 5 0\nroute 0/0 1\nlb d 5 2,7\nhost b 2\nlink a 0 q 0\nlink q 1 d 0\nlink d 1 b 0\n"
	r = fresh(t, readNet(t, ask))
	rounds(t, r, 2)
	come(t, r, api.Place{Device: 3}, "1 3 2,7 0", 2)
	come(t, r, api.Place{Device: 1, Port: 1}, "2 * * *", 1, "5 0 1 3", 2)
	// one that is no back answers as itself alone
	r = fresh(t, readNet(t, chain("lb d 5 6,7\n")))
	come(t, r, left, "2 * * *", 1)
	come(t, r, right, "1 * 0-4,6-15 *", 1)
	// nobody asked
	r = fresh(t, readNet(t, "lb d 5 2\nhost b 2\nrouter e\nlink e 0 d 0\nlink d 1 b 0\n"))
	come(t, r, api.Place{Device: 2}, "2 * * *", 1)
	// nobody can be asked, nor answer
	r = fresh(t, readNet(t, "lb d 5 2\nhost a 1\nlink a 0 d 0\n"))
	rounds(t, r, 0)
	come(t, r, api.Place{Device: 1})
}

// P17: a router whose port 0 leads to its own port 1.
func TestOwnPorts(t *testing.T) {
	r := fresh(t, readNet(t, "router d\npermit * * * *\nroute 0/0 0\nhost a 1\nlink d 0 d 1\nlink d 3 a 0\n"))
	rounds(t, r, 1)
	come(t, r, api.Place{Port: 1}, "1 * * *", 1)
	come(t, r, api.Place{Port: 3}, "1 * * *", 0)
	come(t, r, api.Place{Port: 0})
}

// P17: a packet that is another one each time it comes round.
func TestRoundAndRound(t *testing.T) {
	r := fresh(t, readNet(t, "host a 4\nrouter q\npermit 4 0 0 0\nroute 0/0 1\nrouter d\npermit * * * *\nroute 0/0 1\n"+
		"lb e 2 3\nlb f 1 2\nlb g 0 1\n"+
		"link a 0 q 0\nlink q 1 d 0\nlink d 1 e 0\nlink e 1 f 0\nlink f 1 g 0\nlink g 1 d 2\n"))
	rounds(t, r, 14)
	come(t, r, api.Place{Device: 1}, "4 * * *", 0)
	come(t, r, api.Place{Device: 2}, "4 0 0 0", 1)
	come(t, r, api.Place{Device: 3}, "4 0 0 0", 2, "4 0 1 0", 6, "4 0 2 0", 10, "4 0 3 0", 14)
	come(t, r, api.Place{Device: 4}, "4 0 0 0", 3, "4 0 1 0", 7, "4 0 3 0", 11)
	come(t, r, api.Place{Device: 5}, "4 0 0 0", 4, "4 0 2 0", 8, "4 0 3 0", 12)
	come(t, r, api.Place{Device: 2, Port: 2}, "4 0 1 0", 5, "4 0 2 0", 9, "4 0 3 0", 13)
}

// P17: the least round first, then the least code.
func TestFirst(t *testing.T) {
	route := "permit 1,14 * * *\nroute 0/0 1\n"
	n := readNet(t, "host a 1\nhost b 14\nrouter q\n"+route+"router s\n"+route+"host c 2\n"+
		"link a 0 q 0\nlink q 1 s 0\nlink b 0 s 2\nlink s 1 c 0\n")
	r := fresh(t, n)
	end := api.Place{Device: 4}
	come(t, r, end, "14 * * *", 1, "1 * * *", 2)
	for _, c := range []struct {
		at    api.Place
		match string
		want  string // of none the empty one
	}{
		{end, "* * * *", "14:0>0:0"},
		{end, "1-14 3,5 9,12 2-3", "14:3>9:2"},
		{end, "0-13 * * *", "1:0>0:0"},
		{end, "0-13 7 15 7", "1:7>15:7"},
		{end, "0-13,15 6-7 15 6-7", "1:6>15:6"},
		{end, "0,2-13,15 * * *", ""},
		{end, "- * * *", ""},
		{end, "* - * *", ""},
		{end, "* * - *", ""},
		{end, "* * * -", ""},
		{api.Place{Device: 2}, "* * * *", "1:0>0:0"},
		{api.Place{Device: 2}, "14 * * *", ""},
		{api.Place{Device: 0}, "* * * *", ""},
		{api.Place{Device: 5}, "* * * *", ""},
	} {
		p, ok := r.First(c.at, readMatch(t, c.match))
		if ok != (c.want != "") || ok && p != read(t, c.want) || !ok && p != (api.Packet{}) {
			t.Error(c, p, ok)
		}
	}
}

// P17: errors, in their order.
func TestErrors(t *testing.T) {
	good := readNet(t, chain("nat d 9 1\n"))
	bad := good
	bad.Devices = []api.Device{{Name: "a", Kind: 9}}
	bad.Links = nil
	name := readNet(t, chain("nat d 9 1\n"))
	name.Devices[2].Name = "a"
	large := good
	large.Links = make([]api.Link, api.MaxLinks+1)
	for _, c := range []struct {
		n    api.Net
		most int
		want api.Errno
	}{
		{good, api.MaxNodes, api.OK},
		{good, 3, api.ErrFull},
		{good, 2, api.ErrFull},
		{good, 1, api.ErrArg},
		{good, 0, api.ErrArg},
		{good, api.MaxNodes + 1, api.ErrArg},
		{bad, api.MaxNodes, api.ErrArg},
		{name, api.MaxNodes, api.ErrName},
		{name, 1, api.ErrName},
		{name, 2, api.ErrName},
		{large, api.MaxNodes, api.ErrLarge},
		{large, -1, api.ErrLarge},
		{api.Net{}, 1, api.ErrArg},
		{api.Net{}, 2, api.OK},
		{api.Net{}, api.MaxNodes, api.OK},
		{readNet(t, "host a 1\nrouter r\n"), 2, api.OK},
	} {
		if r, e := reach.New(c.n, c.most); e != c.want || (r == nil) != (e != api.OK) {
			t.Error(c, r, e)
		}
	}
	for _, most := range wild {
		if _, e := reach.New(good, most); (e == api.ErrArg) != (most < 2 || most > api.MaxNodes) {
			t.Error(most, e)
		}
		if _, e := reach.New(name, most); e != api.ErrName {
			t.Error(most, e)
		}
	}
}

// P1, P17: places and packets that none may be.
func TestWild(t *testing.T) {
	r := fresh(t, readNet(t, chain("nat d 9 1\n")))
	is := map[api.Place]bool{left: true, in: true, out: true, right: true}
	for _, device := range wild {
		for _, port := range wild {
			at := api.Place{Device: device, Port: port}
			if (r.Count(at) > 0) != is[at] {
				t.Error(at, r.Count(at))
			}
			if p, ok := r.First(at, match.All()); ok != is[at] || !ok && p != (api.Packet{}) {
				t.Error(at, p, ok)
			}
			if k := r.Round(at, api.Packet{Src: 1}); (k >= 0) != (at == in) {
				t.Error(at, k)
			}
		}
	}
	for _, n := range wild {
		good := n >= 0 && n < 8
		for _, p := range []api.Packet{{Src: 1, Sport: n}, {Src: 1, Dport: n}} {
			if k := r.Round(in, p); k >= 0 != good {
				t.Error(p, k)
			}
		}
		if p := (api.Packet{Src: n}); r.Round(in, p) >= 0 != (n == 1) {
			t.Error(p)
		}
		if p := (api.Packet{Src: 1, Dst: n}); r.Round(in, p) >= 0 != (n >= 0 && n < 16) {
			t.Error(p)
		}
	}
}

// The set of a place in arenas with room and without, and with too few
// variables; and of no such place.
func TestSet(t *testing.T) {
	r := fresh(t, readNet(t, chain("fire d\npermit * * 2 *\n")))
	for most := 2; most <= 20; most++ {
		a, _ := bdd.New(match.Vars, most)
		f, e := r.Set(a, right)
		// From 1 to 2: a node for each bit of both addresses.
		if room := most >= 2+8; room != (e == api.OK) || !room && (f != 0 || e != api.ErrFull) {
			t.Error(most, f, e)
		}
		if n, _ := a.Count(f); n != 64 && e == api.OK {
			t.Error(most, n)
		}
	}
	few, _ := bdd.New(match.Vars-1, api.MaxNodes)
	if f, e := r.Set(few, right); f != 0 || e != api.ErrArg {
		t.Error(f, e)
	}
	more, _ := bdd.New(match.Vars+1, api.MaxNodes)
	f, e := r.Set(more, right)
	if n, _ := more.Count(f); e != api.OK || n != 128 {
		t.Error(f, e, n)
	}
	for _, device := range wild {
		for _, port := range wild {
			at := api.Place{Device: device, Port: port}
			if f, e := r.Set(more, at); e != api.OK || (f == bdd.Never) != (r.Count(at) == 0) {
				t.Error(at, f, e)
			}
		}
	}
}

// P1: a Reach that New didn't make.
func TestZero(t *testing.T) {
	var r reach.Reach
	a, _ := bdd.New(match.Vars, 2)
	if f, e := r.Set(a, api.Place{}); f != bdd.Never || e != api.OK {
		t.Error(f, e)
	}
	p, ok := r.First(api.Place{}, match.All())
	if r.Rounds() != 0 || r.Round(api.Place{}, api.Packet{}) != -1 || r.Count(api.Place{}) != 0 || ok || p != (api.Packet{}) {
		t.Error(r.Rounds(), r.Round(api.Place{}, api.Packet{}), r.Count(api.Place{}), p, ok)
	}
}

const busy = "host a 1\nrouter q\ndeny * * 3 *\npermit * * * *\nroute 0/0 1\nroute 1/4 0\nfire f\npermit 1 * * *\n" +
	"nat g 9 0,3\nlb h 5 6,2\nhost b 2\nlink a 0 q 0\nlink q 1 f 0\nlink f 1 g 0\nlink g 1 h 0\nlink h 1 b 0\n"

// told is all that a Reach answers, as a text.
func told(t *testing.T, r *reach.Reach) string {
	t.Helper()
	s := fmt.Sprint(r.Rounds())
	for device := range 7 {
		for port := range 4 {
			at := api.Place{Device: device, Port: port}
			s += fmt.Sprint("; ", at, r.Count(at))
			for src := range 16 {
				p, ok := r.First(at, api.Match{Src: 1 << src, Dst: 0xfff5, Sport: 0xfe, Dport: 0x7f})
				s += fmt.Sprint(" ", p, ok, r.Round(at, p))
			}
		}
	}
	return s
}

// P2: the net that is handed in isn't changed, nor kept.
func TestNetIsNotKept(t *testing.T) {
	n := readNet(t, busy)
	for i := range n.Devices {
		d := &n.Devices[i]
		// room behind the lists, with something in it
		d.Backs = append(d.Backs, 8, 8)[:len(d.Backs)]
		d.Rules = append(d.Rules, api.Rule{Permit: true}, api.Rule{Permit: true})[:len(d.Rules)]
		d.Routes = append(d.Routes, api.Route{Port: 9}, api.Route{Port: 9})[:len(d.Routes)]
	}
	text := func() string {
		s := fmt.Sprint(n.Devices, n.Links)
		for _, d := range n.Devices {
			s += fmt.Sprint(d.Backs[:len(d.Backs)+2], d.Rules[:len(d.Rules)+2], d.Routes[:len(d.Routes)+2])
		}
		return s
	}
	was := text()
	r := fresh(t, n)
	want := told(t, r)
	if s := text(); s != was {
		t.Error("the net was changed", s)
	}
	for i := range n.Devices {
		d := &n.Devices[i]
		clear(d.Backs)
		clear(d.Rules)
		clear(d.Routes)
		*d = api.Device{Name: "x", Kind: api.KHost}
	}
	clear(n.Links)
	if s := told(t, r); s != want {
		t.Error("the net was kept", s)
	}
	if s := told(t, fresh(t, readNet(t, busy))); s != want {
		t.Error("another Reach of the same net answers otherwise")
	}
}

// P2: calls change nothing, those at the same time included, also where a Reach
// has no room left.
func TestCallsChangeNothing(t *testing.T) {
	n := readNet(t, busy)
	least := leastMost(t, n)
	tight, e := reach.New(n, least)
	if e != api.OK {
		t.Fatal(e)
	}
	wide := fresh(t, n)
	want := told(t, wide)
	answers := make([]string, 8)
	var done sync.WaitGroup
	for k := range answers {
		done.Go(func() { answers[k] = told(t, []*reach.Reach{tight, wide}[k%2]) })
	}
	done.Wait()
	for k, s := range answers {
		if s != want {
			t.Error(k, "answers otherwise")
		}
	}
	if again, _ := reach.New(n, least); !reflect.DeepEqual(again, tight) {
		t.Error("calls changed a Reach")
	}
}
