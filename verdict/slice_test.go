package verdict_test

import (
	"fmt"
	"math/rand"
	"reflect"
	"slices"
	"strings"
	"testing"

	"wireward/api"
	"wireward/net"
	"wireward/verdict"
)

// readNet is the net of a text.
func readNet(t *testing.T, s string) api.Net {
	t.Helper()
	n, at, e := net.Parse(s)
	if e != api.OK {
		t.Fatal(s, at, e)
	}
	return n
}

func printNet(t *testing.T, n api.Net) string {
	t.Helper()
	s, e := net.Print(n)
	if e != api.OK {
		t.Fatal(n, e)
	}
	return s
}

// parts is a net of three parts, whose devices and links are mixed: hosts a and
// b behind a firewall, x and y at two routers and a balancer, z alone.
const parts = "host x 7\nhost a 1\nrouter q\npermit * * * *\nroute 0/0 1\nroute 7/4 0\nfire f\npermit * * 2 *\nhost z 3\nlb l 5 8,9\n" +
	"host b 2\nrouter r\ndeny * * * 3\npermit * * * *\nroute 8/4 3\nroute 7/4 2\nhost y 8\nnat m 9 1,2\n" +
	"link f 1 b 0\nlink x 0 q 0\nlink l 0 q 1\nlink a 0 f 0\nlink r 2 l 1\nlink y 0 r 3\nlink r 0 r 1\n"

const (
	partOfA = "host a 1\nfire f\npermit * * 2 *\nhost b 2\nlink f 1 b 0\nlink a 0 f 0\n"
	partOfX = "host x 7\nrouter q\npermit * * * *\nroute 0/0 1\nroute 7/4 0\nlb l 5 8,9\n" +
		"router r\ndeny * * * 3\npermit * * * *\nroute 8/4 3\nroute 7/4 2\nhost y 8\n" +
		"link x 0 q 0\nlink l 0 q 1\nlink r 2 l 1\nlink y 0 r 3\nlink r 0 r 1\n"
	partOfZ = "host z 3\n"
)

// P19: the devices to which there is a way along links, whichever of its ends is
// the first one of a link; devices and links stay in their order.
func TestSlice(t *testing.T) {
	for _, c := range []struct{ text, host, want string }{
		{parts, "a", partOfA},
		{parts, "b", partOfA},
		{parts, "x", partOfX},
		{parts, "y", partOfX},
		{parts, "z", partOfZ},
		{partOfA, "a", partOfA},
		{partOfX, "y", partOfX},
		{partOfZ, "z", partOfZ},
		// a host beside all links, and one at the end of the list
		{"router r\nrouter s\nhost a 1\nlink r 0 s 0\n", "a", "host a 1\n"},
		{"router r\nrouter s\nhost a 1\nlink r 0 s 0\nlink s 3 a 0\n", "a", "router r\nrouter s\nhost a 1\nlink r 0 s 0\nlink s 3 a 0\n"},
		// two links between the same devices, and one from a device to itself
		{"nat k 1 0\nrouter r\nrouter s\nhost a 1\nlink r 0 r 3\nlink r 2 s 2\nlink k 0 k 1\nlink s 1 r 1\nlink s 0 a 0\n", "a",
			"router r\nrouter s\nhost a 1\nlink r 0 r 3\nlink r 2 s 2\nlink s 1 r 1\nlink s 0 a 0\n"},
		// two hosts that nothing is between
		{"router r\nhost a 1\nhost b 1\nlink b 0 a 0\n", "a", "host a 1\nhost b 1\nlink b 0 a 0\n"},
	} {
		got, e := verdict.Slice(readNet(t, c.text), c.host)
		if s := printNet(t, got); e != api.OK || s != c.want {
			t.Errorf("%s of\n%s is\n%s, not\n%s, %v", c.host, c.text, s, c.want, e)
		}
	}
}

// P19: a chain of as many devices as there may be, in each of its orders that
// are tried: the way from one end to the other goes against their numbers, too.
func TestSliceLong(t *testing.T) {
	for seed := range int64(50) {
		order := rand.New(rand.NewSource(seed)).Perm(api.MaxDevices)
		n := api.Net{Devices: make([]api.Device, api.MaxDevices)}
		for k, i := range order {
			kind := api.KRouter
			if k == 0 || k == len(order)-1 {
				kind = api.KHost
			}
			n.Devices[i] = api.Device{Name: string(rune('a' + k)), Kind: kind}
		}
		for k := range order[1:] {
			n.Links = append(n.Links, api.Link{A: order[k], P: min(k, 1), B: order[k+1]})
		}
		for _, host := range []string{"a", string(rune('a' + api.MaxDevices - 1))} {
			if got, e := verdict.Slice(n, host); e != api.OK || printNet(t, got) != printNet(t, n) {
				t.Fatal(n, host, got, e)
			}
		}
		n.Links = slices.Delete(n.Links, 4, 5)
		if got, e := verdict.Slice(n, "a"); e != api.OK || len(got.Devices) != 5 || len(got.Links) != 4 {
			t.Fatal(n, got, e)
		}
	}
}

// sliceModel is the part of a host, by ways of any length between all devices.
func sliceModel(n api.Net, host int) api.Net {
	var way [api.MaxDevices][api.MaxDevices]bool
	for i := range n.Devices {
		way[i][i] = true
	}
	for _, l := range n.Links {
		way[l.A][l.B], way[l.B][l.A] = true, true
	}
	for via := range n.Devices {
		for i := range n.Devices {
			for j := range n.Devices {
				way[i][j] = way[i][j] || way[i][via] && way[via][j]
			}
		}
	}
	var part api.Net
	number := map[int]int{}
	for i, d := range n.Devices {
		if way[host][i] {
			number[i] = len(part.Devices)
			part.Devices = append(part.Devices, d)
		}
	}
	for _, l := range n.Links {
		if way[host][l.A] {
			part.Links = append(part.Links, api.Link{A: number[l.A], P: l.P, B: number[l.B], Q: l.Q})
		}
	}
	return part
}

// P19: the parts of nets of all kinds, against the model.
func TestSliceOfAnyNet(t *testing.T) {
	split := 0
	for seed := range int64(3000) {
		pick := rand.New(rand.NewSource(seed))
		n := anyNet(pick, 1+pick.Intn(api.MaxDevices))
		for i, d := range n.Devices {
			got, e := verdict.Slice(n, d.Name)
			if d.Kind != api.KHost {
				if e != api.ErrNone || !reflect.DeepEqual(got, api.Net{}) {
					t.Fatal(n, d.Name, got, e)
				}
				continue
			}
			want := sliceModel(n, i)
			if e != api.OK || printNet(t, got) != printNet(t, want) {
				t.Fatal(n, d.Name, got, e, "not", want)
			}
			if len(got.Devices) > 2 && len(got.Devices) < len(n.Devices) {
				split++
			}
		}
	}
	if split < 500 {
		t.Error("hardly any net had parts", split)
	}
}

// wrongNets are nets with each error that net.Check tells, and host a.
func wrongNets(t *testing.T) []api.Net {
	t.Helper()
	var l []api.Net
	for _, spoil := range []func(n *api.Net){
		func(n *api.Net) { n.Devices = append(n.Devices, n.Devices...) },
		func(n *api.Net) { n.Links = make([]api.Link, api.MaxLinks+1) },
		func(n *api.Net) { n.Devices[3].Rules = make([]api.Rule, api.MaxRules+1) },
		func(n *api.Net) { n.Devices[2].Name = "" },
		func(n *api.Net) { n.Devices[2].Name = "Q" },
		func(n *api.Net) { n.Devices[2].Name = "a" },
		func(n *api.Net) { n.Devices[4].Name = "a" },
		func(n *api.Net) { n.Devices[2].Kind = 6 },
		func(n *api.Net) { n.Devices[4].Addr = 16 },
		func(n *api.Net) { n.Devices[1].Pool = 1 },
		func(n *api.Net) { n.Links[1].A = 10 },
		func(n *api.Net) { n.Links[1].A = -1 },
		func(n *api.Net) { n.Links[1].P = 4 },
		func(n *api.Net) { n.Links[1] = n.Links[0] },
	} {
		n := readNet(t, parts)
		if spoil(&n); net.Check(n) == api.OK {
			t.Fatal("nothing is wrong with", n)
		}
		l = append(l, n)
	}
	return l
}

// noHosts are names that no host of parts has.
var noHosts = []string{
	"", " ", "q", "f", "l", "r", "m", "c", "A", "aa", "a ", " a", "a\x00", "a\n", "\xff", "host a 1", "0", "1",
	strings.Repeat("a", 9), strings.Repeat("a", 1<<16),
}

// P19: a net that none may be, then a name that no host has; nothing is told
// beside the error.
func TestSliceErrors(t *testing.T) {
	is := func(n api.Net, host string, want api.Errno) {
		t.Helper()
		if got, e := verdict.Slice(n, host); e != want || !reflect.DeepEqual(got, api.Net{}) {
			t.Error(n, host, got, e, "not", want)
		}
	}
	for _, n := range wrongNets(t) {
		is(n, "a", net.Check(n))
		is(n, "z", net.Check(n))
		is(n, "none", net.Check(n))
	}
	for _, host := range noHosts {
		is(readNet(t, parts), host, api.ErrNone)
		is(api.Net{}, host, api.ErrNone)
	}
}

// roomy is a net with something in the room behind each of its lists.
func roomy(n api.Net) api.Net {
	for i := range n.Devices {
		d := &n.Devices[i]
		d.Backs = append(d.Backs, 8, 8)[:len(d.Backs)]
		d.Rules = append(d.Rules, api.Rule{Permit: true}, api.Rule{Permit: true})[:len(d.Rules)]
		d.Routes = append(d.Routes, api.Route{Port: 9}, api.Route{Port: 9})[:len(d.Routes)]
	}
	n.Devices = append(n.Devices, api.Device{Name: "x"})[:len(n.Devices)]
	n.Links = append(n.Links, api.Link{A: 9})[:len(n.Links)]
	return n
}

// allOf is all that a net's lists have, the room behind them included.
func allOf(n api.Net) string {
	var s strings.Builder
	devices := n.Devices[:cap(n.Devices)]
	fmt.Fprint(&s, devices, n.Links[:cap(n.Links)])
	for _, d := range devices {
		fmt.Fprint(&s, d.Backs[:cap(d.Backs)], d.Rules[:cap(d.Rules)], d.Routes[:cap(d.Routes)])
	}
	return s.String()
}

// scribble overwrites all that a net's lists have, the room behind them
// included, with something else for each list.
func scribble(n api.Net, mark int) {
	devices := n.Devices[:cap(n.Devices)]
	for i, d := range devices {
		for k := range d.Backs[:cap(d.Backs)] {
			d.Backs[:cap(d.Backs)][k] = mark + i
		}
		for k := range d.Rules[:cap(d.Rules)] {
			d.Rules[:cap(d.Rules)][k] = api.Rule{Match: api.Match{Src: uint16(mark + i)}}
		}
		for k := range d.Routes[:cap(d.Routes)] {
			d.Routes[:cap(d.Routes)][k] = api.Route{Port: mark + i}
		}
	}
	for k := range n.Links[:cap(n.Links)] {
		n.Links[:cap(n.Links)][k] = api.Link{A: mark}
	}
}

// P2: what is handed in isn't changed, and shares nothing with an answer; no two
// lists of an answer, or of two answers, share anything.
func TestSliceIsNew(t *testing.T) {
	n := roomy(readNet(t, parts))
	was := allOf(n)
	for _, host := range []string{"a", "x", "z"} {
		one, _ := verdict.Slice(n, host)
		other, e := verdict.Slice(n, host)
		want := printNet(t, other)
		if e != api.OK || allOf(n) != was {
			t.Fatal(host, e, "the net was changed")
		}
		scribble(one, 100)
		for i, d := range one.Devices {
			for _, back := range d.Backs {
				if back != 100+i {
					t.Error(host, "two devices share their backs")
				}
			}
			for _, rule := range d.Rules {
				if rule.Match.Src != uint16(100+i) {
					t.Error(host, "two devices share their rules")
				}
			}
			for _, route := range d.Routes {
				if route.Port != 100+i {
					t.Error(host, "two devices share their routes")
				}
			}
		}
		clear(one.Devices[:cap(one.Devices)])
		if allOf(n) != was {
			t.Fatal(host, "the answer shares memory with the net")
		}
		if printNet(t, other) != want {
			t.Error(host, "two answers share memory")
		}
	}
	kept, _ := verdict.Slice(n, "x")
	scribble(n, 200)
	clear(n.Devices)
	if printNet(t, kept) != partOfX {
		t.Error("the net shares memory with the answer")
	}
}
