package differ_test

import (
	"fmt"
	"math"
	"reflect"
	"slices"
	"sort"
	"strings"
	"sync"
	"testing"

	"wireward/api"
	"wireward/differ"
	"wireward/net"
	"wireward/reach"
	"wireward/verdict"
)

// readNet is the net of a text.
func readNet(t *testing.T, s string) api.Net {
	t.Helper()
	n, at, e := net.Parse(s)
	if e != api.OK {
		t.Fatal(s, at, e)
	}
	return n
}

// chain is hosts a with address 1 and b with address 2, and a device d between,
// as a text.
func chain(device string) string {
	return "host a 1\n" + device + "host b 2\nlink a 0 d 0\nlink d 1 b 0\n"
}

// moved is a chain whose devices stand at other numbers, and beside it hosts x
// and y, and a host z alone.
func moved(device string) string {
	return "host x 7\nhost b 2\n" + device + "host y 8\nhost z 3\nhost a 1\nlink y 0 x 0\nlink d 1 b 0\nlink a 0 d 0\n"
}

const pass = "permit * * * *\n"

// P23: which packet can come to a host in just one of two nets, and in which;
// with the nets exchanged it is the same one, and the other net.
func TestAt(t *testing.T) {
	for _, c := range []struct {
		a, b, host, packet string
		which              int
	}{
		// a router's rules and routes
		{chain("router d\n" + pass + "route 0/0 1\n"), chain("router d\n" + pass + "route 0/0 1\n"), "b", "", 0},
		{chain("router d\n" + pass + "route 0/0 1\n"), chain("router d\nroute 0/0 1\n"), "b", "1:0>0:0", 1},
		{chain("router d\n" + pass + "route 0/0 1\n"), chain("router d\n" + pass + "route 8/1 1\nroute 0/1 1\n"), "b", "", 0},
		{chain("router d\n" + pass + "route 0/0 1\n"), chain("router d\n" + pass + "route 2/4 1\n"), "b", "1:0>0:0", 1},
		{chain("router d\n" + pass + "route 0/0 1\n"), chain("router d\n" + pass + "route 0/0 1\nroute 9/4 3\n"), "b", "1:0>9:0", 1},
		{chain("router d\ndeny * 3 4 *\n" + pass + "route 0/0 1\n"), chain("router d\n" + pass + "route 0/0 1\n"), "b", "1:3>4:0", 2},
		// what isn't sent doesn't matter, nor what doesn't come to the host that is asked for
		{chain("router d\npermit 1 * * *\nroute 0/0 1\n"), chain("router d\npermit 1,5-9 * * *\nroute 0/0 1\n"), "b", "", 0},
		{chain("router d\npermit 1 * * *\nroute 0/0 1\n"), chain("router d\npermit * * * *\nroute 0/0 1\n"), "a", "", 0},
		{chain("router d\n" + pass + "route 0/0 1\nroute 1/4 0\n"), chain("router d\n" + pass + "route 0/0 1\nroute 1/4 2\n"), "a", "1:0>1:0", 1},
		{chain("router d\n" + pass + "route 0/0 1\nroute 1/4 0\n"), chain("router d\n" + pass + "route 0/0 1\nroute 1/4 2\n"), "b", "", 0},
		// a firewall lets answers in to who may ask
		{chain("fire d\npermit * * 2 *\n"), chain("fire d\npermit * * 2,3 *\n"), "b", "1:0>3:0", 2},
		{chain("fire d\npermit * * 2 *\n"), chain("fire d\npermit * * 2,3 *\n"), "a", "", 0},
		{chain("fire d\npermit * 2-7 * *\n"), chain("fire d\npermit * * 2 *\n"), "a", "2:0>1:0", 2},
		{chain("fire d\npermit * 2-7 * *\n"), chain("fire d\npermit * 1-5 2 6\n"), "a", "2:0>1:2", 1},
		{chain("fire d\npermit * 2-7 * *\n"), chain("fire d\npermit * 1-5 2 6\n"), "b", "1:2>0:0", 1},
		// a nat's address and ports
		{chain("nat d 9 4,6\n"), chain("nat d 9 6,4\n"), "b", "", 0},
		{chain("nat d 9 4,6\n"), chain("nat d 9 4,5,6\n"), "b", "9:5>0:0", 2},
		{chain("nat d 9 4,6\n"), chain("nat d 9 6\n"), "b", "9:4>0:0", 1},
		{chain("nat d 9 4,6\n"), chain("nat d 9 6\n"), "a", "", 0},
		{chain("nat d 9 4,6\n"), chain("nat d 8 6\n"), "b", "8:6>0:0", 2},
		// a balancer's address and backs
		{chain("lb d 5 3,2\n"), chain("lb d 5 2,3\n"), "a", "", 0},
		{chain("lb d 5 3,2\n"), chain("lb d 5 3\n"), "a", "5:0>1:0", 1},
		{chain("lb d 5 3,2\n"), chain("lb d 6 3\n"), "b", "1:0>5:0", 2},
		{chain("lb d 6 3\n"), chain("lb d 6 15\n"), "b", "", 0},
		// devices of different kinds
		{chain("fire d\n" + pass), chain("router d\n" + pass + "route 0/0 1\n"), "b", "2:0>0:0", 2},
		{chain("fire d\n" + pass), chain("router d\npermit 1 * * *\nroute 0/0 1\n"), "b", "", 0},
		{chain("fire d\n" + pass), chain("router d\n" + pass + "route 0/0 1\n"), "a", "2:0>1:0", 1},
		{chain("nat d 1 0,1,2,3,4,5,6,7\n"), chain("fire d\n" + pass), "b", "", 0},
		{chain("nat d 9 1\n"), chain("lb d 5 2\n"), "a", "2:0>0:0", 2},
		// the host's other number, other order of links, and what isn't linked to it
		{chain("fire d\npermit * * 2 *\n"), moved("fire d\npermit * * 2 *\n"), "b", "", 0},
		{chain("fire d\npermit * * 2 *\n"), moved("fire d\npermit * * 2 *\n"), "a", "", 0},
		{chain("fire d\npermit * * 2 *\n"), moved("fire d\npermit * 6 3 *\n"), "b", "1:0>2:0", 1},
		{moved("fire d\npermit * * 2 *\n"), moved("nat d 9 1\n"), "x", "", 0},
		{moved("fire d\npermit * * 2 *\n"), moved("nat d 9 1\n"), "z", "", 0},
		{moved("fire d\npermit * * 2 *\n"), "host x 7\n", "x", "8:0>0:0", 1},
		{"host x 7\nhost y 6\nlink x 0 y 0\n", moved("fire d\n"), "x", "6:0>0:0", 1},
		// the host's own address doesn't matter: hosts send nothing on
		{"host a 1\nhost b 2\nlink a 0 b 0\n", "host a 15\nhost b 2\nlink b 0 a 0\n", "a", "", 0},
		{"host a 1\nhost b 2\nlink a 0 b 0\n", "host a 15\nhost b 2\nlink b 0 a 0\n", "b", "1:0>0:0", 1},
		{"host a 1\n", "host a 2\n", "a", "", 0},
		// the least code and the greatest one
		{"host a 1\nhost b 0\nlink a 0 b 0\n", "host a 1\nhost b 0\n", "a", "0:0>0:0", 1},
		{"host a 15\n" + "router d\npermit 15 7 15 7\nroute 15/4 1\nhost b 2\nlink a 0 d 0\nlink d 1 b 0\n", "host b 1\n", "b", "15:7>15:7", 1},
	} {
		a, b := readNet(t, c.a), readNet(t, c.b)
		want := read(t, c.packet)
		if p, k, e := differ.At(a, b, c.host, api.MaxNodes); e != api.OK || p != want || k != c.which {
			t.Error(c, p, k, e)
		}
		if p, k, e := differ.At(b, a, c.host, api.MaxNodes); e != api.OK || p != want || k != (3-c.which)%3 {
			t.Error("exchanged:", c, p, k, e)
		}
	}
}

// wrongNets are nets with each error that net.Check tells, and hosts a and b.
func wrongNets(t *testing.T) map[api.Errno]api.Net {
	t.Helper()
	l := map[api.Errno]api.Net{}
	for want, spoil := range map[api.Errno]func(n *api.Net){
		api.ErrArg:    func(n *api.Net) { n.Devices[1].Kind = 6 },
		api.ErrLarge:  func(n *api.Net) { n.Links = make([]api.Link, api.MaxLinks+1) },
		api.ErrSyntax: func(n *api.Net) { n.Devices[1].Name = "D" },
		api.ErrName:   func(n *api.Net) { n.Links[1] = n.Links[0] },
	} {
		n := readNet(t, chain("fire d\n"+pass))
		if spoil(&n); net.Check(n) != want {
			t.Fatal(n, net.Check(n), want)
		}
		l[want] = n
	}
	return l
}

// isError holds an error of At, beside which nothing is told.
func isError(t *testing.T, a, b api.Net, host string, most int, want api.Errno) {
	t.Helper()
	if p, k, e := differ.At(a, b, host, most); e != want || k != 0 || p != (api.Packet{}) {
		t.Error(a, b, host, most, p, k, e, "not", want)
	}
}

// P23: the error of the first net and of the host in it, then of the second
// one, then of the room, whatever else is wrong.
func TestAtErrors(t *testing.T) {
	good := readNet(t, chain("fire d\n"+pass))
	wrong := wrongNets(t)
	for _, most := range []int{math.MinInt, -1, 0, 1, 2, api.MaxNodes, api.MaxNodes + 1, math.MaxInt} {
		for want, n := range wrong {
			for _, host := range []string{"a", "none", "d", ""} {
				isError(t, n, good, host, most, want)
				isError(t, n, api.Net{}, host, most, want)
				for _, other := range wrong {
					isError(t, n, other, host, most, want)
				}
			}
			isError(t, good, n, "a", most, want)
			isError(t, good, n, "b", most, want)
			isError(t, good, n, "none", most, api.ErrNone)
			isError(t, api.Net{}, n, "a", most, api.ErrNone)
		}
		isError(t, good, api.Net{}, "a", most, api.ErrNone)
		isError(t, api.Net{}, good, "a", most, api.ErrNone)
		isError(t, api.Net{}, api.Net{}, "a", most, api.ErrNone)
	}
	for _, most := range wild {
		switch {
		case most < 2 || most > api.MaxNodes:
			isError(t, good, good, "a", most, api.ErrArg)
			isError(t, readNet(t, "host a 1\n"), readNet(t, "host a 1\n"), "a", most, api.ErrArg)
		case most < 6: // a node for each bit of an address, and the two that there always are
			isError(t, good, good, "a", most, api.ErrFull)
		}
	}
}

// P23: a name that no host has, in one of both nets or in both; one that
// another device has is none.
func TestAtNoHost(t *testing.T) {
	good := readNet(t, chain("fire d\n"+pass))
	renamed := readNet(t, "host c 1\nfire a\n"+pass+"host d 2\nlink c 0 a 0\nlink a 1 d 0\n")
	for _, host := range []string{
		"", " ", "c", "d", "A", "aa", "a ", " a", "a\x00", "a\n", "\xff", "host a 1", "0", "1",
		strings.Repeat("a", 9), strings.Repeat("a", 1<<16),
	} {
		isError(t, good, good, host, api.MaxNodes, api.ErrNone)
		isError(t, good, renamed, host, api.MaxNodes, api.ErrNone)
		isError(t, renamed, good, host, api.MaxNodes, api.ErrNone)
	}
	for _, host := range []string{"a", "b"} {
		isError(t, good, renamed, host, api.MaxNodes, api.ErrNone)
		isError(t, renamed, good, host, api.MaxNodes, api.ErrNone)
	}
}

// leastMost is the least number of nodes with which there are the sets of a
// net.
func leastMost(t *testing.T, n api.Net) int {
	t.Helper()
	return 2 + sort.Search(api.MaxNodes-2, func(k int) bool {
		_, e := reach.New(n, 2+k)
		return e == api.OK
	})
}

// P23: there is room just if there is for each of both slices by itself; what
// else is in a net, and whether they differ, isn't looked at.
func TestRoomForSlices(t *testing.T) {
	small, great := "fire d\npermit * * 2 *\n", "fire d\ndeny * 3,6 1-5 2\npermit * * 2,3,9 1-6\n"
	least := map[string]int{small: leastMost(t, readNet(t, chain(small))), great: leastMost(t, readNet(t, chain(great)))}
	if least[small] >= least[great] {
		t.Fatal(least)
	}
	for _, c := range [][2]string{{small, small}, {small, great}, {great, small}, {great, great}} {
		a, b := readNet(t, moved(c[0])), readNet(t, moved(c[1]))
		enough := max(least[c[0]], least[c[1]])
		if _, e := reach.New(a, least[c[0]]); e != api.ErrFull {
			t.Fatal("the whole net has room, too", c[0])
		}
		for _, host := range []string{"a", "b"} {
			want, which, e := differ.At(a, b, host, api.MaxNodes)
			if p, k, bad := differ.At(a, b, host, enough); e != api.OK || bad != api.OK || p != want || k != which {
				t.Error(c, host, enough, p, k, bad, "not", want, which)
			}
			isError(t, a, b, host, enough-1, api.ErrFull)
			isError(t, a, b, host, 2, api.ErrFull)
		}
	}
	// Each has room by itself, though both together wouldn't.
	twos, fours := readNet(t, "host a 2\nhost b 2\nlink a 0 b 0\n"), readNet(t, "host a 4\nhost b 4\nlink a 0 b 0\n")
	if p, k, e := differ.At(twos, fours, "a", 6); e != api.OK || k != 1 || p != (api.Packet{Src: 2}) {
		t.Error(p, k, e)
	}
	isError(t, twos, fours, "a", 5, api.ErrFull)
	alone := readNet(t, moved(great))
	if p, k, e := differ.At(alone, alone, "z", 2); e != api.OK || k != 0 || p != (api.Packet{}) {
		t.Error("a host alone needs no more nodes", p, k, e)
	}
}

// roomy is a net with something in the room behind each of its lists.
func roomy(n api.Net) api.Net {
	for i := range n.Devices {
		d := &n.Devices[i]
		d.Backs = append(d.Backs, 8, 8)[:len(d.Backs)]
		d.Rules = append(d.Rules, api.Rule{Permit: true}, api.Rule{Permit: true})[:len(d.Rules)]
		d.Routes = append(d.Routes, api.Route{Port: 9}, api.Route{Port: 9})[:len(d.Routes)]
	}
	n.Devices = append(n.Devices, api.Device{Name: "x"})[:len(n.Devices)]
	n.Links = append(n.Links, api.Link{A: 9})[:len(n.Links)]
	return n
}

// allOf is all that a net's lists have, the room behind them included.
func allOf(n api.Net) string {
	devices := n.Devices[:cap(n.Devices)]
	s := fmt.Sprint(devices, n.Links[:cap(n.Links)])
	for _, d := range devices {
		s += fmt.Sprint(d.Backs[:cap(d.Backs)], d.Rules[:cap(d.Rules)], d.Routes[:cap(d.Routes)])
	}
	return s
}

// P2: the nets aren't changed, the room behind their lists included, and an
// answer is the same each time, whoever else asks.
func TestAtChangesNothing(t *testing.T) {
	lines := "router q\n" + pass + "route 0/0 2\nroute 2/4 1\nlb d 5 6,2\n"
	a := roomy(readNet(t, moved(lines)))
	b := roomy(readNet(t, chain(lines+"fire f\n"+pass)))
	was := allOf(a) + allOf(b)
	all := func() string {
		s := ""
		for _, host := range []string{"a", "b", "x", "none"} {
			p, k, e := differ.At(a, b, host, api.MaxNodes)
			q, m, f := differ.At(a, a, host, 40)
			s += fmt.Sprintln(host, p, k, e, q, m, f)
		}
		return s
	}
	want := all()
	var wait sync.WaitGroup
	for range 8 {
		wait.Go(func() {
			if s := all(); s != want {
				t.Error(s, "not", want)
			}
		})
	}
	wait.Wait()
	if allOf(a)+allOf(b) != was {
		t.Error("the nets were changed")
	}
}

// placeOf is where packets come in at a device.
func placeOf(n api.Net, name string) api.Place {
	return api.Place{Device: slices.IndexFunc(n.Devices, func(d api.Device) bool { return d.Name == name })}
}

// isolated tells that no such packet can come to a host.
func isolated(t *testing.T, n api.Net, host string, m api.Match) bool {
	t.Helper()
	v, e := verdict.Ask(n, host, m, api.MaxNodes)
	if e != api.OK {
		t.Fatal(n, host, m, e)
	}
	return reflect.DeepEqual(v, api.Verdict{})
}
