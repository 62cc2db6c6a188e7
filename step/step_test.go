package step_test

import (
	"math"
	"testing"

	"wireward/acl"
	"wireward/api"
	"wireward/fib"
	"wireward/match"
	"wireward/net"
	"wireward/packet"
	"wireward/step"
)

// wild are numbers in, at and beyond the bounds of every part.
var wild = []int{
	math.MinInt, math.MinInt + 1, -1 << 32, -64, -8, -1, 0, 1, 2, 3, 4, 5, 7, 8, 9, 15, 16, 31, 32, 63, 64,
	255, 256, 1 << 16, 1 << 32, 1<<32 + 1, math.MaxInt - 1, math.MaxInt,
}

// never are choices that no device has.
var never = []int{math.MinInt, -1 << 32, -64, -8, -1, 8, 9, 16, 64, 256, 1 << 32, math.MaxInt}

// The ports of the device in a chain.
var (
	in  = api.Place{Device: 1, Port: 0}
	out = api.Place{Device: 1, Port: 1}
)

// Where the host on each side of a chain has what comes to it.
var (
	left  = api.Place{Device: 0}
	right = api.Place{Device: 2}
)

func fire() api.Device {
	return api.Device{Kind: api.KFire, Rules: []api.Rule{{Permit: true, Match: match.All()}}}
}

func nat() api.Device { return api.Device{Kind: api.KNat, Addr: 9, Pool: 1<<0 | 1<<2 | 1<<7} }

func balancer() api.Device { return api.Device{Kind: api.KBalancer, Addr: 5, Backs: []int{7, 6}} }

// chain is a host, a device, and a host, with those ports of the device linked
// that are named.
func chain(d api.Device, ports ...int) api.Net {
	d.Name = "d"
	n := api.Net{Devices: []api.Device{{Name: "a", Kind: api.KHost, Addr: 1}, d, {Name: "b", Kind: api.KHost, Addr: 2}}}
	for _, p := range ports {
		n.Links = append(n.Links, api.Link{A: 1, P: p, B: 2 * p, Q: 0})
	}
	return n
}

func fresh(t *testing.T, n api.Net) *step.Memory {
	t.Helper()
	m, e := step.New(n)
	if e != api.OK || m == nil {
		t.Fatal(m, e)
	}
	return m
}

// read is the packet of a text.
func read(t *testing.T, s string) api.Packet {
	t.Helper()
	p, e := packet.Parse(s)
	if e != api.OK {
		t.Fatal(s, e)
	}
	return p
}

// tells holds against a memory that a packet goes on to a place as another one.
func tells(t *testing.T, m *step.Memory, at api.Place, p string, choice int, next api.Place, then string) {
	t.Helper()
	want := api.Arrival{Place: next, Packet: read(t, then)}
	if x, e := m.Handle(at, read(t, p), choice); e != api.OK || x != want {
		t.Error(p, "at", at, "by", choice, "is", x, e, "not", want)
	}
}

// refuses holds against a memory that a packet has an error.
func refuses(t *testing.T, m *step.Memory, at api.Place, p string, choice int, want api.Errno) {
	t.Helper()
	if x, e := m.Handle(at, read(t, p), choice); e != want || x != (api.Arrival{}) {
		t.Error(p, "at", at, "by", choice, "is", x, e, "not", want)
	}
}

// all goes through the packets.
func all(yield func(api.Packet) bool) {
	for code := range api.Packets {
		if p, _ := packet.Of(code); !yield(p) {
			return
		}
	}
}

// fact is something that a device knows: a packet (KFire, KBalancer), or a port
// (KNat).
type fact struct {
	device int
	packet api.Packet
	port   int
}

// knows is all that a memory has, as far as Forget tells it.
func knows(m *step.Memory, n api.Net) []fact {
	var l []fact
	c := m.Copy()
	for i, d := range n.Devices {
		switch d.Kind {
		case api.KNat:
			for port := range api.PortsOf {
				if c.Forget(i, api.Packet{}, port) == api.OK {
					l = append(l, fact{device: i, port: port})
				}
			}
		case api.KFire, api.KBalancer:
			for p := range all {
				if c.Forget(i, p, 0) == api.OK {
					l = append(l, fact{device: i, packet: p})
				}
			}
		}
	}
	return l
}

// P12: New has net.Check's errors, and no memory then.
func TestNewErrors(t *testing.T) {
	host := api.Device{Name: "a", Kind: api.KHost}
	for i, n := range []api.Net{
		{Devices: make([]api.Device, 11)},
		{Devices: []api.Device{host}, Links: make([]api.Link, 16)},
		{Devices: []api.Device{{Name: "A", Kind: api.KHost}}},
		{Devices: []api.Device{host, host}},
		{Devices: []api.Device{{Name: "a"}}},
		{Devices: []api.Device{{Name: "a", Kind: api.KNat}}},
		{Devices: []api.Device{{Name: "a", Kind: api.KFire, Rules: make([]api.Rule, 9)}}},
		{Devices: []api.Device{{Name: "a", Kind: api.KRouter, Routes: make([]api.Route, 2)}}},
		{Devices: []api.Device{host}, Links: []api.Link{{A: 0, B: 1}}},
		{Devices: []api.Device{host}, Links: []api.Link{{}}},
	} {
		if m, e := step.New(n); e != net.Check(n) || e == api.OK || m != nil {
			t.Error(i, m, e, net.Check(n))
		}
	}
}

// P12: a new memory has nothing, of whatever net.
func TestNewHasNothing(t *testing.T) {
	for _, n := range []api.Net{{}, {Devices: []api.Device{}}, chain(fire(), 0, 1), chain(nat(), 0, 1), chain(balancer(), 0, 1)} {
		if l := knows(fresh(t, n), n); len(l) != 0 {
			t.Error(l)
		}
	}
}

// P1, P13: no such device, or no such port of it, ahead of everything else.
func TestHandleNoPlace(t *testing.T) {
	n := api.Net{Devices: []api.Device{
		{Name: "h", Kind: api.KHost}, {Name: "r", Kind: api.KRouter}, {Name: "f", Kind: api.KFire},
		{Name: "n", Kind: api.KNat, Pool: 1}, {Name: "l", Kind: api.KBalancer, Backs: []int{1}},
	}}
	ports := []int{1, 4, 2, 2, 2}
	m := fresh(t, n)
	for _, device := range wild {
		for _, port := range wild {
			there := device >= 0 && device < 5 && port >= 0 && port < ports[device]
			for _, p := range []api.Packet{{}, {Src: 16}, {Dport: math.MinInt}} {
				x, e := m.Handle(api.Place{Device: device, Port: port}, p, -1)
				if x != (api.Arrival{}) || e == api.OK || (e == api.ErrNone) == there {
					t.Error(device, port, x, e)
				}
			}
		}
	}
	if x, e := fresh(t, api.Net{}).Handle(api.Place{}, api.Packet{}, 0); x != (api.Arrival{}) || e != api.ErrNone {
		t.Error("without devices", x, e)
	}
}

// P1, P13: a packet that none may be is told ahead of what the device says.
func TestHandleWrongPacket(t *testing.T) {
	devices := []api.Device{{Kind: api.KHost}, {Kind: api.KRouter}, {Kind: api.KFire}, fire(), nat(), balancer()}
	for _, d := range devices {
		n := chain(d)
		m := fresh(t, n)
		for port := range net.Ports(d.Kind) {
			for _, bad := range wild {
				for _, p := range []api.Packet{{Src: bad}, {Dst: bad}, {Sport: bad}, {Dport: bad}, {Src: bad, Dst: bad, Sport: bad, Dport: bad}} {
					if packet.Check(p) == api.OK {
						continue
					}
					// Without a link and with such a choice there are others, too.
					if x, e := m.Handle(api.Place{Device: 1, Port: port}, p, -1); x != (api.Arrival{}) || e != api.ErrArg {
						t.Error(d.Kind, port, p, x, e)
					}
				}
			}
		}
		if l := knows(m, n); len(l) != 0 {
			t.Error(d.Kind, l)
		}
	}
}

// P13: nothing goes out of a host.
func TestHost(t *testing.T) {
	m := fresh(t, chain(fire(), 0, 1))
	for _, at := range []api.Place{left, right} {
		for p := range all {
			if x, e := m.Handle(at, p, p.Src); x != (api.Arrival{}) || e != api.ErrState {
				t.Fatal(at, p, x, e)
			}
		}
	}
}

// P13: a router lets packets through by its rules, and out by its routes, where
// there is a link.
func TestRouter(t *testing.T) {
	d := api.Device{
		Name: "r", Kind: api.KRouter,
		Rules: []api.Rule{
			{Permit: false, Match: api.Match{Src: 1 << 3, Dst: 0xffff, Sport: 0xff, Dport: 0xff}},
			{Permit: true, Match: api.Match{Src: 0xffff, Dst: 0xfff7, Sport: 0xff, Dport: 0x7f}},
		},
		Routes: []api.Route{{Value: 8, Bits: 1, Port: 0}, {Value: 12, Bits: 2, Port: 2}, {Value: 0, Bits: 2, Port: 3}, {Value: 3, Bits: 4, Port: 1}, {Value: 2, Bits: 4, Port: 1}},
	}
	n := api.Net{Devices: []api.Device{{Name: "a", Kind: api.KHost}, d, {Name: "b", Kind: api.KHost}, {Name: "c", Kind: api.KHost}}}
	n.Links = []api.Link{{A: 0, B: 1, P: 0, Q: 0}, {A: 1, P: 1, B: 2}, {A: 3, B: 1, Q: 2}} // port 3 leads nowhere
	peers := []api.Place{{Device: 0}, {Device: 2}, {Device: 3}}
	m := fresh(t, n)
	went := map[int]int{}
	for p := range all {
		want, bad := api.Arrival{}, api.ErrState
		port, ok := fib.Out(d.Routes, p.Dst)
		if ok && port < 3 && acl.Lets(d.Rules, p) {
			want, bad = api.Arrival{Place: peers[port], Packet: p}, api.OK
			went[port]++
		}
		for at := range 4 { // where it came in doesn't matter, and it may go back there
			if x, e := m.Handle(api.Place{Device: 1, Port: at}, p, never[p.Dst%len(never)]); x != want || e != bad {
				t.Fatal(at, p, x, e, want, bad)
			}
		}
	}
	if went[0] == 0 || went[1] == 0 || went[2] == 0 {
		t.Error("hardly tried", went)
	}
	for _, p := range []api.Packet{{Src: 1, Dst: 8}, {Src: 1, Dst: 2}} {
		bare := d
		bare.Rules = nil // lets nothing through
		if x, e := fresh(t, chain(bare, 0, 1)).Handle(in, p, 0); x != (api.Arrival{}) || e != api.ErrState {
			t.Error("no rules", x, e)
		}
		bare = d
		bare.Routes = nil
		if x, e := fresh(t, chain(bare, 0, 1)).Handle(in, p, 0); x != (api.Arrival{}) || e != api.ErrState {
			t.Error("no routes", x, e)
		}
	}
}

// P13: who only answers comes in only behind who asked.
func TestFire(t *testing.T) {
	n := chain(fire(), 0, 1)
	m := fresh(t, n)
	for p := range all {
		if x, e := m.Handle(out, p, 0); x != (api.Arrival{}) || e != api.ErrState {
			t.Fatal("nobody asked", p, x, e)
		}
	}
	asked := read(t, "1:2>3:4")
	tells(t, m, in, "1:2>3:4", -7, right, "1:2>3:4")
	for p := range all {
		want, bad := api.Arrival{}, api.ErrState
		if p == packet.Flip(asked) {
			want, bad = api.Arrival{Place: left, Packet: p}, api.OK
		}
		if x, e := m.Handle(out, p, math.MinInt); x != want || e != bad {
			t.Fatal(p, x, e)
		}
	}
	tells(t, m, in, "1:2>3:4", 0, right, "1:2>3:4") // asked again
	tells(t, m, out, "3:4>1:2", 0, left, "3:4>1:2") // answered again
	if l := knows(m, n); len(l) != 1 || l[0] != (fact{device: 1, packet: asked}) {
		t.Error(l)
	}
	tells(t, m, in, "3:4>1:2", 0, right, "3:4>1:2") // the answer is a question here
	tells(t, m, out, "1:2>3:4", 0, left, "1:2>3:4")
	tells(t, m, in, "0:0>0:0", 0, right, "0:0>0:0") // its own answer
	tells(t, m, out, "0:0>0:0", 0, left, "0:0>0:0")
}

// P13: a firewall's rules are for what goes out alone.
func TestFireRules(t *testing.T) {
	d := api.Device{Kind: api.KFire, Rules: []api.Rule{{Permit: true, Match: api.Match{Src: 1 << 1, Dst: 0xffff, Sport: 0xff, Dport: 0xff}}}}
	n := chain(d, 0, 1)
	m := fresh(t, n)
	for p := range all {
		want, bad := api.Arrival{}, api.ErrState
		if p.Src == 1 {
			want, bad = api.Arrival{Place: right, Packet: p}, api.OK
		}
		if x, e := m.Handle(in, p, 0); x != want || e != bad {
			t.Fatal(p, x, e)
		}
	}
	for p := range all {
		if _, e := m.Handle(out, p, 0); (e == api.OK) != (p.Dst == 1) {
			t.Fatal(p, e)
		}
	}
	if l := knows(m, n); len(l) != 1024 {
		t.Error(len(l))
	}
}

// P13: what can't go out is not known.
func TestFireWithoutPeer(t *testing.T) {
	n := chain(fire(), 0)
	m := fresh(t, n)
	refuses(t, m, in, "1:2>3:4", 0, api.ErrState)
	refuses(t, m, out, "3:4>1:2", 0, api.ErrState)
	if l := knows(m, n); len(l) != 0 {
		t.Error(l)
	}
	n = chain(fire(), 1) // the question goes out, the answer has no way back
	m = fresh(t, n)
	tells(t, m, in, "1:2>3:4", 0, right, "1:2>3:4")
	refuses(t, m, out, "3:4>1:2", 0, api.ErrState)
	if l := knows(m, n); len(l) != 1 {
		t.Error(l)
	}
}

// P13: a sender has one port of the pool, and keeps it.
func TestNatOut(t *testing.T) {
	n := chain(nat(), 0, 1)
	m := fresh(t, n)
	tells(t, m, in, "1:2>3:4", 2, right, "9:2>3:4")
	for _, choice := range wild { // not looked at any more
		tells(t, m, in, "1:2>3:4", choice, right, "9:2>3:4")
		tells(t, m, in, "1:2>15:0", choice, right, "9:2>15:0")
		tells(t, m, in, "1:2>9:2", choice, right, "9:2>9:2")
	}
	for _, other := range []string{"1:3>3:4", "2:2>3:4", "9:2>3:4"} { // its parts, each with another one
		refuses(t, m, in, other, 2, api.ErrFull)
		for _, choice := range append([]int{1, 3, 4, 5, 6}, never...) {
			refuses(t, m, in, other, choice, api.ErrArg)
		}
	}
	tells(t, m, in, "1:3>3:4", 7, right, "9:7>3:4")
	tells(t, m, in, "0:0>3:4", 0, right, "9:0>3:4")
	for _, choice := range []int{0, 2, 7} {
		refuses(t, m, in, "2:2>3:4", choice, api.ErrFull)
	}
	refuses(t, m, in, "2:2>3:4", 1, api.ErrArg) // ahead of a full pool
	tells(t, m, in, "1:3>0:0", 2, right, "9:7>0:0")
	tells(t, m, in, "0:0>0:0", 7, right, "9:0>0:0")
	if l := knows(m, n); len(l) != 3 {
		t.Error(l)
	}
}

// P13: each pool has its own ports, and no others.
func TestNatPools(t *testing.T) {
	for pool := 1; pool < 256; pool++ {
		d := nat()
		d.Pool = uint8(pool)
		n := chain(d, 0, 1)
		for _, choice := range wild {
			m := fresh(t, n)
			x, e := m.Handle(in, api.Packet{Src: 1, Sport: 6, Dst: 4, Dport: 5}, choice)
			want, bad, known := api.Arrival{}, api.ErrArg, 0
			if choice >= 0 && choice < 8 && pool&(1<<choice) != 0 {
				want, bad, known = api.Arrival{Place: right, Packet: api.Packet{Src: 9, Sport: choice, Dst: 4, Dport: 5}}, api.OK, 1
			}
			if x != want || e != bad || len(knows(m, n)) != known {
				t.Fatal(pool, choice, x, e)
			}
		}
	}
}

// P13: what comes for a port goes to its owner, from whomever it is.
func TestNatIn(t *testing.T) {
	m := fresh(t, chain(nat(), 0, 1))
	for p := range all {
		if x, e := m.Handle(out, p, 0); x != (api.Arrival{}) || e != api.ErrState {
			t.Fatal("no owner", p, x, e)
		}
	}
	tells(t, m, in, "1:3>4:4", 2, right, "9:2>4:4")
	tells(t, m, in, "0:0>4:4", 7, right, "9:7>4:4")
	owners := map[int][2]int{2: {1, 3}, 7: {0, 0}}
	for p := range all {
		want, bad := api.Arrival{}, api.ErrState
		if owner, ok := owners[p.Dport]; ok && p.Dst == 9 {
			want, bad = api.Arrival{Place: left, Packet: api.Packet{Src: p.Src, Sport: p.Sport, Dst: owner[0], Dport: owner[1]}}, api.OK
		}
		if x, e := m.Handle(out, p, p.Src-8); x != want || e != bad {
			t.Fatal(p, x, e, want, bad)
		}
	}
}

// P13: without a way out there is no owner, but the device's errors are told
// first.
func TestNatWithoutPeer(t *testing.T) {
	n := chain(nat(), 0)
	m := fresh(t, n)
	refuses(t, m, in, "1:2>3:4", 1, api.ErrArg)
	refuses(t, m, in, "1:2>3:4", -1, api.ErrArg)
	refuses(t, m, in, "1:2>3:4", 2, api.ErrState)
	refuses(t, m, in, "1:3>3:4", 2, api.ErrState) // 2 has no owner still
	refuses(t, m, out, "3:4>9:2", 0, api.ErrState)
	if l := knows(m, n); len(l) != 0 {
		t.Error(l)
	}
	n = chain(nat(), 1)
	m = fresh(t, n)
	tells(t, m, in, "1:2>3:4", 2, right, "9:2>3:4")
	refuses(t, m, out, "3:4>9:2", 0, api.ErrState)
	refuses(t, m, in, "1:3>3:4", 2, api.ErrFull)
	if l := knows(m, n); len(l) != 1 {
		t.Error(l)
	}
}

// P13: a packet for a balancer goes to the back that was chosen first.
func TestBalancerOut(t *testing.T) {
	n := chain(balancer(), 0, 1)
	m := fresh(t, n)
	for p := range all {
		if p.Dst == 5 {
			continue
		}
		if x, e := m.Handle(in, p, never[p.Dst%len(never)]); e != api.OK || x != (api.Arrival{Place: right, Packet: p}) {
			t.Fatal("not for it", p, x, e)
		}
	}
	if l := knows(m, n); len(l) != 0 {
		t.Error(l)
	}
	for _, choice := range append([]int{2, 3, 5, 6, 7}, never...) {
		refuses(t, m, in, "1:2>5:4", choice, api.ErrArg)
	}
	tells(t, m, in, "1:2>5:4", 1, right, "1:2>6:4")
	for _, choice := range wild { // not looked at any more
		tells(t, m, in, "1:2>5:4", choice, right, "1:2>6:4")
	}
	for _, other := range []string{"0:2>5:4", "1:3>5:4", "1:2>5:3"} { // its parts, each with another one
		refuses(t, m, in, other, 2, api.ErrArg)
	}
	tells(t, m, in, "1:3>5:4", 0, right, "1:3>7:4")
	tells(t, m, in, "5:4>5:4", 1, right, "5:4>6:4")
	tells(t, m, in, "1:2>6:4", 0, right, "1:2>6:4") // for a back, not for it
	if l := knows(m, n); len(l) != 3 {
		t.Error(l)
	}
}

// P13: a balancer has as many choices as backs.
func TestBalancerChoices(t *testing.T) {
	for backs := 1; backs <= 3; backs++ {
		d := balancer()
		d.Backs = []int{0, 15, 3}[:backs]
		for _, choice := range wild {
			m := fresh(t, chain(d, 0, 1))
			x, e := m.Handle(in, api.Packet{Src: 1, Dst: 5}, choice)
			want, bad := api.Arrival{}, api.ErrArg
			if choice >= 0 && choice < backs {
				want, bad = api.Arrival{Place: right, Packet: api.Packet{Src: 1, Dst: d.Backs[choice]}}, api.OK
			}
			if x != want || e != bad {
				t.Error(backs, choice, x, e)
			}
		}
	}
}

// P13: the answer of a back is the balancer's; all else goes in as it is.
func TestBalancerIn(t *testing.T) {
	n := chain(balancer(), 0, 1)
	m := fresh(t, n)
	for p := range all {
		if x, e := m.Handle(out, p, -1); e != api.OK || x != (api.Arrival{Place: left, Packet: p}) {
			t.Fatal("nobody asked", p, x, e)
		}
	}
	tells(t, m, in, "1:2>5:4", 1, right, "1:2>6:4")
	tells(t, m, in, "1:3>5:4", 0, right, "1:3>7:4")
	answers := map[api.Packet]api.Packet{
		read(t, "6:4>1:2"): read(t, "5:4>1:2"),
		read(t, "7:4>1:3"): read(t, "5:4>1:3"),
	}
	for p := range all {
		want := p
		if other, ok := answers[p]; ok {
			want = other
		}
		if x, e := m.Handle(out, p, p.Dport-3); e != api.OK || x != (api.Arrival{Place: left, Packet: want}) {
			t.Fatal(p, x, e, want)
		}
	}
	if l := knows(m, n); len(l) != 2 {
		t.Error(l)
	}
}

// P13: without a way out there is no back, but the device's error is told
// first.
func TestBalancerWithoutPeer(t *testing.T) {
	n := chain(balancer(), 0)
	m := fresh(t, n)
	refuses(t, m, in, "1:2>5:4", 2, api.ErrArg)
	refuses(t, m, in, "1:2>5:4", 1, api.ErrState)
	refuses(t, m, in, "1:2>5:4", 2, api.ErrArg) // it has no back still
	refuses(t, m, in, "1:2>4:4", 2, api.ErrState)
	if l := knows(m, n); len(l) != 0 {
		t.Error(l)
	}
	tells(t, m, out, "6:4>1:2", 0, left, "6:4>1:2")
	n = chain(balancer(), 1)
	m = fresh(t, n)
	tells(t, m, in, "1:2>5:4", 1, right, "1:2>6:4")
	refuses(t, m, out, "6:4>1:2", 0, api.ErrState)
	refuses(t, m, out, "0:0>0:0", 0, api.ErrState)
	if l := knows(m, n); len(l) != 1 {
		t.Error(l)
	}
}

// P13: a link may lead back to the device itself; what is told is where a
// packet comes in, not what is done there.
func TestLinkToItself(t *testing.T) {
	n := api.Net{Devices: []api.Device{nat()}, Links: []api.Link{{A: 0, P: 1, B: 0, Q: 0}}}
	n.Devices[0].Name = "n"
	m := fresh(t, n)
	tells(t, m, api.Place{}, "1:2>3:4", 2, api.Place{}, "9:2>3:4")
	tells(t, m, api.Place{}, "9:2>3:4", 0, api.Place{}, "9:0>3:4")
	tells(t, m, api.Place{Port: 1}, "3:4>9:0", 0, api.Place{Port: 1}, "3:4>9:2")
	tells(t, m, api.Place{Port: 1}, "3:4>9:2", 0, api.Place{Port: 1}, "3:4>1:2")
}
