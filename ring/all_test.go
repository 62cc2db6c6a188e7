package ring_test

import (
	"math"
	"math/rand"
	"slices"
	"testing"

	"wireward/api"
	"wireward/match"
	"wireward/packet"
	"wireward/ring"
)

// all is how many packets go round, by device and port.
func all(t *testing.T, n api.Net) []int {
	t.Helper()
	l, e := ring.All(n, api.MaxNodes)
	if e != api.OK {
		t.Fatal(n, e)
	}
	return l
}

// P22: how many packets go round, in nets in which that is told at sight.
func TestAll(t *testing.T) {
	four := func(counts ...int) []int {
		var l []int
		for _, count := range counts {
			l = append(l, count, count, count, count)
		}
		return l
	}
	const pass = "permit * * * *\n"
	for _, c := range []struct {
		text string
		want []int
	}{
		{"", nil},
		{"host a 1\n", []int{0}},
		{"host a 1\nhost b 2\nlink a 0 b 0\n", []int{0, 0}},
		{"router r\n", four(0)},
		{"router r\n" + pass + "route 0/0 0\n", four(0)},
		{"router r\n" + pass + "route 0/0 0\nlink r 0 r 1\n", four(16384)},
		{"router r\n" + pass + "route 0/0 1\nlink r 0 r 1\n", four(16384)},
		{"router r\n" + pass + "route 0/0 2\nlink r 0 r 1\n", four(0)},
		{"router r\n" + pass + "route 15/4 3\nlink r 2 r 3\n", four(1024)},
		{"router r\nroute 0/0 0\nlink r 0 r 1\n", four(0)},
		{"router r\ndeny * 3 * *\n" + pass + "route 0/0 0\nlink r 0 r 1\n", four(14336)},
		{"router r\npermit 4 5 6 7\nroute 4/2 0\nlink r 0 r 1\n", four(1)},
		{"router r\npermit 4 5 8 7\nroute 4/2 0\nlink r 0 r 1\n", four(0)},
		// two rings at one router: by one port, and by either of two
		{"router r\n" + pass + "route 0/1 0\nroute 8/2 2\nlink r 0 r 1\nlink r 2 r 3\n", four(12288)},
		{"router r\n" + pass + "route 0/1 0\nroute 8/1 1\nlink r 0 r 1\n", four(16384)},
		// a host ahead of a ring, and one behind it
		{"host a 1\nrouter r\n" + pass + "route 0/0 1\nroute 1/4 0\nlink a 0 r 0\nlink r 1 r 2\n", append([]int{0}, four(15360)...)},
		{"router r\n" + pass + "route 0/0 0\nhost a 1\nlink a 0 r 0\n", append(four(0), 0)},
		// two routers: a ring of both, of none, and of one with the other ahead of it
		{"router a\n" + pass + "route 0/0 0\nrouter b\npermit * 0-2 * *\nroute 8/1 3\nlink a 0 b 3\n", four(3072, 3072)},
		{"router a\n" + pass + "route 0/0 0\nrouter b\npermit * 0-2 * *\nroute 8/1 3\nlink a 0 b 2\n", four(0, 0)},
		{"router a\n" + pass + "route 0/0 0\nrouter b\npermit * 0-2 * *\nroute 8/1 3\nlink a 0 b 2\nlink b 0 b 3\n", four(3072, 3072)},
		{"router a\npermit * 2-7 * *\nroute 12/2 0\nrouter b\npermit * 0-2 * *\nroute 8/1 3\nlink a 0 b 2\nlink b 0 b 3\n", four(512, 3072)},
		// a: the ring of b, and of those to c; c: its own, and of those of b what its rule leaves
		{rings, slices.Concat(four(1344+3584, 1344, 7168+1176), []int{0, 0}, four(0, 0))},
	} {
		if got := all(t, readNet(t, c.text)); !slices.Equal(got, c.want) {
			t.Error(c.text, got, "not", c.want)
		}
	}
}

// P22: the longest rings, whose last router has a rule of its own; and the same
// with one link fewer.
func TestAllLong(t *testing.T) {
	for devices := 1; devices <= api.MaxDevices; devices++ {
		n := circle(devices)
		n.Devices[devices-1].Rules[0].Match.Sport = 1
		if got := all(t, n); !slices.Equal(got, slices.Repeat([]int{2048}, 4*devices)) {
			t.Error(devices, got)
		}
		n.Links = n.Links[:devices-1]
		if got := all(t, n); !slices.Equal(got, make([]int, 4*devices)) {
			t.Error(devices, got)
		}
		if devices == 1 {
			continue
		}
		// The last one has a ring of its own: all that comes to it goes round.
		n.Links = append(n.Links, api.Link{A: devices - 1, P: 3, B: devices - 1, Q: 2})
		if got := all(t, n); !slices.Equal(got, slices.Repeat([]int{2048}, 4*devices)) {
			t.Error(devices, got)
		}
	}
}

// P22: as Walk has it, packet by packet.
func TestAllIsWalk(t *testing.T) {
	nets := []api.Net{readNet(t, rings)}
	for seed := range int64(4) {
		nets = append(nets, anyNet(rand.New(rand.NewSource(seed)), 3))
	}
	for _, n := range nets {
		var want []int
		for _, at := range placesOf(n) {
			count := 0
			for code := range api.Packets {
				p, _ := packet.Of(code)
				_, round, e := ring.Walk(n, at, p)
				if e != api.OK {
					t.Fatal(n, at, p, e)
				}
				if round {
					count++
				}
			}
			want = append(want, count)
		}
		if got := all(t, n); !slices.Equal(got, want) {
			t.Error(n, got, "not", want)
		}
	}
}

// P22: the error of the net, then of the number of nodes, then of the room;
// nothing is told beside it.
func TestAllErrors(t *testing.T) {
	is := func(n api.Net, most int, want api.Errno) {
		t.Helper()
		if l, e := ring.All(n, most); e != want || len(l) != 0 {
			t.Error(n, most, l, e, "not", want)
		}
	}
	for want, l := range wrongNets(t) {
		for _, n := range l {
			for _, most := range []int{math.MinInt, 1, 2, api.MaxNodes, api.MaxNodes + 1} {
				is(n, most, want)
			}
		}
	}
	n := readNet(t, rings)
	for _, most := range append(wild, api.MaxNodes+1) {
		if most < 2 || most > api.MaxNodes {
			is(n, most, api.ErrArg)
			is(api.Net{}, most, api.ErrArg)
			is(readNet(t, "host a 1\n"), most, api.ErrArg)
		} else if most <= 10 {
			is(n, most, api.ErrFull)
		}
	}
	is(readNet(t, "router r\npermit 1 * * *\nroute 0/0 0\nlink r 0 r 1\n"), 5, api.ErrFull)
}

// P22: all packets, or none, need no node but the two that there always are.
func TestAllWithoutNodes(t *testing.T) {
	for _, n := range []api.Net{{}, readNet(t, "host a 1\n"), circle(1), circle(api.MaxDevices)} {
		got, e := ring.All(n, 2)
		if e != api.OK || !slices.Equal(got, all(t, n)) {
			t.Error(n, got, e)
		}
	}
}

// P22: nets with as much of everything as there may be have room.
func TestGreatNets(t *testing.T) {
	most := 0
	for seed := range int64(20) {
		r := rand.New(rand.NewSource(seed))
		n := circle(api.MaxDevices)
		for i := range n.Devices {
			d := &n.Devices[i]
			d.Rules = nil
			for range api.MaxRules - 1 {
				d.Rules = append(d.Rules, api.Rule{Permit: r.Intn(3) > 0, Match: anyMatch(r)})
			}
			d.Rules = append(d.Rules, api.Rule{Permit: true, Match: match.All()})
			d.Routes = append(d.Routes, api.Route{Value: 2 * r.Intn(8), Bits: 3, Port: 2})
		}
		for i := range api.MaxLinks - len(n.Links) {
			n.Links = append(n.Links, api.Link{A: 2 * i, P: 2, B: 2*i + 1, Q: 2})
		}
		got := all(t, n)
		if want := modelOf(n).counts(); !slices.Equal(got, want) {
			t.Error(n, got, "not", want)
		}
		most = max(most, slices.Max(got))
	}
	if most < 500 {
		t.Error("hardly anything goes round", most)
	}
}
