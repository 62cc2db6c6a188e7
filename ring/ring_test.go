package ring_test

import (
	"math"
	"reflect"
	"slices"
	"strconv"
	"strings"
	"sync"
	"testing"

	"wireward/api"
	"wireward/match"
	"wireward/net"
	"wireward/packet"
	"wireward/ring"
	"wireward/world"
)

// wild are numbers in, at and beyond the bounds of every part.
var wild = []int{
	math.MinInt, math.MinInt + 1, -1 << 32, -64, -8, -1, 0, 1, 2, 3, 4, 5, 7, 8, 9, 10, 15, 16, 31, 32, 63, 64,
	255, 256, 1 << 16, 1 << 32, 1<<32 + 1, math.MaxInt - 1, math.MaxInt,
}

// readNet is the net of a text.
func readNet(t *testing.T, s string) api.Net {
	t.Helper()
	n, at, e := net.Parse(s)
	if e != api.OK {
		t.Fatal(s, at, e)
	}
	return n
}

func read(t *testing.T, s string) api.Packet {
	t.Helper()
	p, e := packet.Parse(s)
	if e != api.OK {
		t.Fatal(s, e)
	}
	return p
}

// readPlaces is the places of a text, as `a0 b3`: port 0 of device a, port 3 of
// device b.
func readPlaces(t *testing.T, n api.Net, s string) []api.Place {
	t.Helper()
	var l []api.Place
	for _, word := range strings.Fields(s) {
		name, end := word[:len(word)-1], word[len(word)-1:]
		port, err := strconv.Atoi(end)
		device := slices.IndexFunc(n.Devices, func(d api.Device) bool { return d.Name == name })
		if err != nil || device < 0 {
			t.Fatal(s)
		}
		l = append(l, api.Place{Device: device, Port: port})
	}
	return l
}

// rings is a net in which packets to 8 and above go round between a and b, if
// they are from 1 to 3 and not for port 5, and those to 0 to 7 that come to c go
// round there, if they aren't from port 6; a sends those to 4 to 7 there, and
// those to 1 to h.
const rings = "router a\npermit * * * *\nroute 8/1 0\nroute 4/2 1\nroute 1/4 3\nroute 0/4 2\n" +
	"router b\ndeny * * * 5\npermit 1-3 * * *\nroute 0/0 0\nroute 4/2 3\n" +
	"router c\ndeny * 6 * *\npermit * * * *\nroute 0/0 2\nroute 8/1 0\n" +
	"host h 1\nhost k 2\nrouter d\nroute 0/0 0\nrouter e\npermit * * * *\n" +
	"link b 0 a 0\nlink a 1 c 0\nlink c 2 c 3\nlink h 0 a 3\nlink k 0 b 1\nlink b 2 d 0\nlink d 2 e 0\n"

// P21: a packet goes on until it comes to rest, or to a place for the second
// time.
func TestWalk(t *testing.T) {
	const own = "router r\npermit * * * *\nroute 0/0 0\nlink r 0 r 1\n"
	for _, c := range []struct {
		text, packet, places string
		round                bool
	}{
		// a ring of two, from a place of it, from one beside it, from a host's
		{rings, "1:0>8:0", "a0 b0", true},
		{rings, "1:0>8:0", "b0 a0", true},
		{rings, "3:7>15:7", "a3 b0 a0", true},
		{rings, "3:7>15:7", "b1 a0 b0", true},
		{rings, "3:7>15:7", "a2 b0 a0", true},
		{rings, "3:7>15:7", "c1 a1 b0 a0", true},
		// b's rules
		{rings, "3:7>15:5", "a3 b0", false},
		{rings, "4:7>15:0", "a3 b0", false},
		{rings, "4:7>15:0", "b3", false},
		{rings, "0:0>8:0", "c3 a1 b0", false},
		// a ring of one, and a rule ahead of it
		{rings, "0:0>4:0", "c3", true},
		{rings, "0:0>7:5", "c0 c3", true},
		{rings, "0:0>7:5", "a0 c0 c3", true},
		{rings, "0:6>4:0", "c0", false},
		{rings, "0:6>4:0", "a0 c0", false},
		{rings, "15:1>6:2", "c2 c3", true},
		// to a host, which sends nothing on, not even what isn't for it
		{rings, "1:0>1:0", "a3 h0", false},
		{rings, "2:0>1:0", "b1 a0 h0", false},
		{rings, "9:7>8:0", "h0", false},
		{rings, "1:0>8:0", "h0", false},
		{rings, "1:0>1:0", "k0", false},
		// no route, a port that isn't linked, no rule, a route of more bits
		{rings, "1:0>2:0", "a1", false},
		{rings, "1:0>3:0", "b1 a0", false},
		{rings, "1:0>0:0", "b2 a0", false},
		{rings, "1:0>7:0", "b2", false},
		{rings, "1:0>7:0", "d3", false},
		{rings, "1:0>7:0", "e0", false},
		// what comes back by the link by which it came
		{own, "1:2>3:4", "r2 r1", true},
		{own, "1:2>3:4", "r3 r1", true},
		{own, "1:2>3:4", "r0 r1", true},
		{own, "1:2>3:4", "r1", true},
		{"router r\npermit * * * *\nroute 0/0 1\nlink r 0 r 1\n", "1:2>3:4", "r1 r0", true},
		{"router r\npermit * * * *\nroute 0/0 2\nlink r 0 r 1\n", "1:2>3:4", "r1", false},
		{"host a 1\n", "1:2>3:4", "a0", false},
		{"host a 1\nhost b 1\nlink a 0 b 0\n", "1:2>3:4", "b0", false},
	} {
		n := readNet(t, c.text)
		want := readPlaces(t, n, c.places)
		got, round, e := ring.Walk(n, want[0], read(t, c.packet))
		if e != api.OK || round != c.round || !slices.Equal(got, want) {
			t.Error(c, got, round, e)
		}
	}
}

// circle is a ring of so many routers, each of which sends all on to the next
// one, in at its port 1.
func circle(devices int) api.Net {
	var n api.Net
	for i := range devices {
		n.Devices = append(n.Devices, api.Device{
			Name: string(rune('a' + i)), Kind: api.KRouter,
			Rules:  []api.Rule{{Permit: true, Match: match.All()}},
			Routes: []api.Route{{Port: 3}},
		})
		n.Links = append(n.Links, api.Link{A: i, P: 3, B: (i + 1) % devices, Q: 1})
	}
	return n
}

// P21: the longest rings, and the same with one link fewer, from each place.
func TestWalkLong(t *testing.T) {
	for devices := 1; devices <= api.MaxDevices; devices++ {
		for start := range devices {
			for port := range 4 {
				n := circle(devices)
				at := api.Place{Device: start, Port: port}
				want := []api.Place{at}
				for i := 1; i <= devices; i++ {
					want = append(want, api.Place{Device: (start + i) % devices, Port: 1})
				}
				if port == 1 {
					want = want[:devices]
				}
				if got, round, e := ring.Walk(n, at, api.Packet{}); e != api.OK || !round || !slices.Equal(got, want) {
					t.Fatal(devices, at, got, round, e)
				}
				// The last link leads from the last device to the first.
				n.Links = n.Links[:devices-1]
				want = want[:devices-start]
				if got, round, e := ring.Walk(n, at, api.Packet{}); e != api.OK || round || !slices.Equal(got, want) {
					t.Fatal(devices, at, got, round, e)
				}
			}
		}
	}
}

// P21: a packet that a host sends comes in at the places of its walk, and at no
// other ones, however often it is handled.
func TestWalkInWorld(t *testing.T) {
	n := readNet(t, rings)
	for code := 0; code < api.Packets; code += 5 {
		p, _ := packet.Of(code)
		for host, to := range map[int]api.Place{3: {Device: 0, Port: 3}, 4: {Device: 1, Port: 1}} {
			w, _ := world.New(n)
			if w.Do(api.Event{Kind: api.EInject, Device: host, Packet: p}) != api.OK {
				continue
			}
			for range 50 {
				seen := w.Seen()
				at := seen[len(seen)-1].Place
				w.Do(api.Event{Kind: api.EHop, Device: at.Device, Port: at.Port, Packet: p})
			}
			var want []api.Place
			for _, x := range w.Seen() {
				want = append(want, x.Place)
			}
			last := want[len(want)-1]
			goes := w.Do(api.Event{Kind: api.EHop, Device: last.Device, Port: last.Port, Packet: p}) == api.OK
			if got, round, e := ring.Walk(n, to, p); e != api.OK || round != goes || !slices.Equal(got, want) {
				t.Fatal(p, got, round, e, "not", want, goes)
			}
		}
	}
}

// wrongNets are nets with each error that net.Check tells, and one with each
// device that is neither a host nor a router, with the error that is wanted.
func wrongNets(t *testing.T) map[api.Errno][]api.Net {
	t.Helper()
	wrong := map[api.Errno][]api.Net{}
	for _, spoil := range []func(n *api.Net){
		func(n *api.Net) { n.Devices = append(n.Devices, n.Devices...) },
		func(n *api.Net) { n.Links = make([]api.Link, api.MaxLinks+1) },
		func(n *api.Net) { n.Devices[1].Rules = make([]api.Rule, api.MaxRules+1) },
		func(n *api.Net) { n.Devices[1].Routes = make([]api.Route, api.MaxRoutes+1) },
		func(n *api.Net) { n.Devices[2].Name = "" },
		func(n *api.Net) { n.Devices[2].Name = "Q" },
		func(n *api.Net) { n.Devices[2].Name = "a" },
		func(n *api.Net) { n.Devices[1].Routes[0].Bits = 5 },
		func(n *api.Net) { n.Devices[2].Kind = 0 },
		func(n *api.Net) { n.Devices[2].Kind = 6 },
		func(n *api.Net) { n.Devices[3].Addr = 16 },
		func(n *api.Net) { n.Devices[1].Pool = 1 },
		func(n *api.Net) { n.Links[1].A = 10 },
		func(n *api.Net) { n.Links[1].A = -1 },
		func(n *api.Net) { n.Links[1].P = 4 },
		func(n *api.Net) { n.Links[1] = n.Links[0] },
		// what is wrong with the net is told ahead of what no ring has
		func(n *api.Net) { n.Devices[0] = fire; n.Devices[2].Name = "b" },
		func(n *api.Net) { n.Devices[0] = fire; n.Devices[2].Name = "B" },
		func(n *api.Net) { n.Devices[0] = fire; n.Links[0] = api.Link{A: 1, B: 1} },
		func(n *api.Net) { n.Devices[0] = fire; n.Links = make([]api.Link, api.MaxLinks+1) },
	} {
		n := readNet(t, rings)
		spoil(&n)
		e := net.Check(n)
		if e == api.OK {
			t.Fatal("nothing is wrong with", n)
		}
		wrong[e] = append(wrong[e], n)
	}
	for _, text := range []string{
		"fire f\n", "nat f 1 2\n", "lb f 1 2\n", rings[:strings.Index(rings, "link")] + "fire f\n",
		"nat f 0 0\nhost a 1\n", "host a 1\nlb f 0 1,2,3\nrouter r\n", "host a 1\nfire f\npermit * * * *\nlink a 0 f 0\n",
	} {
		wrong[api.ErrArg] = append(wrong[api.ErrArg], readNet(t, text))
	}
	for e := api.ErrArg; e <= api.ErrName; e++ {
		if e != api.ErrNone && len(wrong[e]) == 0 {
			t.Fatal("no net has error", e)
		}
	}
	return wrong
}

var fire = api.Device{Name: "a", Kind: api.KFire}

// P21: nets of hosts and routers alone.
func TestCheck(t *testing.T) {
	for _, text := range []string{
		"", "host a 0\n", "router r\n", rings, "host a 1\nhost b 2\nlink a 0 b 0\n", "router r\nlink r 0 r 1\n",
	} {
		if e := ring.Check(readNet(t, text)); e != api.OK {
			t.Error(text, e)
		}
	}
	for want, l := range wrongNets(t) {
		for _, n := range l {
			if e := ring.Check(n); e != want {
				t.Error(n, e, "not", want)
			}
		}
	}
}

// P21: the error of the net, then of the place, then of the packet; nothing is
// told beside it.
func TestWalkErrors(t *testing.T) {
	is := func(n api.Net, at api.Place, p api.Packet, want api.Errno) {
		t.Helper()
		if l, round, e := ring.Walk(n, at, p); e != want || len(l) != 0 || round {
			t.Error(n, at, p, l, round, e, "not", want)
		}
	}
	nowhere, bad := api.Place{Device: 99}, api.Packet{Src: 16}
	for want, l := range wrongNets(t) {
		for _, n := range l {
			is(n, api.Place{}, api.Packet{}, want)
			is(n, nowhere, api.Packet{}, want)
			is(n, api.Place{}, bad, want)
			is(n, nowhere, bad, want)
		}
	}
	is(api.Net{}, api.Place{}, api.Packet{}, api.ErrNone)
	n := readNet(t, rings)
	for _, device := range wild {
		for _, port := range wild {
			at := api.Place{Device: device, Port: port}
			if device >= 0 && device < 7 && port >= 0 && port < 4 && (port == 0 || device != 3 && device != 4) {
				is(n, at, bad, api.ErrArg)
				if l, _, e := ring.Walk(n, at, api.Packet{}); e != api.OK || l[0] != at {
					t.Error(at, l, e)
				}
				continue
			}
			is(n, at, api.Packet{}, api.ErrNone)
			is(n, at, bad, api.ErrNone)
		}
	}
	for _, number := range wild {
		for part, most := range []int{15, 15, 7, 7} {
			var p api.Packet
			*[]*int{&p.Src, &p.Dst, &p.Sport, &p.Dport}[part] = number
			if number < 0 || number > most {
				is(n, api.Place{}, p, api.ErrArg)
				is(n, nowhere, p, api.ErrNone)
			} else if l, _, e := ring.Walk(n, api.Place{}, p); e != api.OK || len(l) == 0 {
				t.Error(p, l, e)
			}
		}
	}
}

// roomy is a net with something in the room behind each of its lists.
func roomy(n api.Net) api.Net {
	for i := range n.Devices {
		d := &n.Devices[i]
		d.Backs = append(d.Backs, 8, 8)[:len(d.Backs)]
		d.Rules = append(d.Rules, api.Rule{Permit: true}, api.Rule{Permit: true})[:len(d.Rules)]
		d.Routes = append(d.Routes, api.Route{Port: 9}, api.Route{Port: 9})[:len(d.Routes)]
	}
	n.Devices = append(n.Devices, api.Device{Name: "x"})[:len(n.Devices)]
	n.Links = append(n.Links, api.Link{A: 9})[:len(n.Links)]
	return n
}

// whole is a net with the room behind its lists, in memory of its own.
func whole(n api.Net) api.Net {
	c := api.Net{Devices: slices.Clone(n.Devices[:cap(n.Devices)]), Links: slices.Clone(n.Links[:cap(n.Links)])}
	for i := range c.Devices {
		d := &c.Devices[i]
		d.Backs = slices.Clone(d.Backs[:cap(d.Backs)])
		d.Rules = slices.Clone(d.Rules[:cap(d.Rules)])
		d.Routes = slices.Clone(d.Routes[:cap(d.Routes)])
	}
	return c
}

// P2: what is handed in isn't changed, the room behind its lists included; an
// answer is the caller's own, and the same each time, whoever else asks.
func TestNewMemory(t *testing.T) {
	n := roomy(readNet(t, rings))
	was := whole(n)
	type answer struct {
		places []api.Place
		counts []int
	}
	ask := func() answer {
		places, _, _ := ring.Walk(n, api.Place{Port: 2}, api.Packet{Src: 1, Dst: 8})
		counts, _ := ring.All(n, api.MaxNodes)
		return answer{places, counts}
	}
	want, other := ask(), ask()
	for i := range other.places[:cap(other.places)] {
		other.places[:cap(other.places)][i] = api.Place{Device: 77}
	}
	for i := range other.counts[:cap(other.counts)] {
		other.counts[:cap(other.counts)][i] = 77
	}
	answers := make([]answer, 8)
	var wait sync.WaitGroup
	for k := range answers {
		wait.Go(func() { answers[k] = ask() })
	}
	wait.Wait()
	for k, got := range answers {
		if !reflect.DeepEqual(got, want) {
			t.Error(k, got, "not", want)
		}
	}
	if !reflect.DeepEqual(whole(n), was) {
		t.Error("the net was changed")
	}
}
