package world_test

import (
	"math"
	"slices"
	"testing"

	"wireward/api"
	"wireward/match"
	"wireward/net"
	"wireward/packet"
	"wireward/world"
)

// wild are numbers in, at and beyond the bounds of every part.
var wild = []int{
	math.MinInt, math.MinInt + 1, -1 << 32, -64, -8, -1, 0, 1, 2, 3, 4, 5, 7, 8, 9, 15, 16, 31, 32, 63, 64,
	255, 256, 1 << 16, 1 << 32, 1<<32 + 1, math.MaxInt - 1, math.MaxInt,
}

// The places of a chain: the hosts at its ends, and the device between them.
var (
	left  = api.Place{Device: 0}
	in    = api.Place{Device: 1}
	out   = api.Place{Device: 1, Port: 1}
	right = api.Place{Device: 2}
)

func fire() api.Device {
	return api.Device{Kind: api.KFire, Rules: []api.Rule{{Permit: true, Match: match.All()}}}
}

func nat() api.Device { return api.Device{Kind: api.KNat, Addr: 9, Pool: 1<<0 | 1<<2} }

func balancer() api.Device { return api.Device{Kind: api.KBalancer, Addr: 5, Backs: []int{7, 2}} }

// chain is a host with address 1, a device, and a host with address 2.
func chain(d api.Device) api.Net {
	d.Name = "d"
	return api.Net{
		Devices: []api.Device{{Name: "a", Kind: api.KHost, Addr: 1}, d, {Name: "b", Kind: api.KHost, Addr: 2}},
		Links:   []api.Link{{A: 0, B: 1}, {A: 1, P: 1, B: 2}},
	}
}

func fresh(t *testing.T, n api.Net) *world.World {
	t.Helper()
	w, e := world.New(n)
	if e != api.OK || w == nil {
		t.Fatal(w, e)
	}
	return w
}

// read is the packet of a text.
func read(t *testing.T, s string) api.Packet {
	t.Helper()
	p, e := packet.Parse(s)
	if e != api.OK {
		t.Fatal(s, e)
	}
	return p
}

func send(t *testing.T, device int, p string) api.Event {
	t.Helper()
	return api.Event{Kind: api.EInject, Device: device, Packet: read(t, p)}
}

func hop(t *testing.T, at api.Place, p string, choice int) api.Event {
	t.Helper()
	return api.Event{Kind: api.EHop, Device: at.Device, Port: at.Port, Packet: read(t, p), Choice: choice}
}

func expire(t *testing.T, device int, p string, port int) api.Event {
	t.Helper()
	return api.Event{Kind: api.EExpire, Device: device, Packet: read(t, p), Choice: port}
}

func came(t *testing.T, at api.Place, p string) api.Arrival {
	t.Helper()
	return api.Arrival{Place: at, Packet: read(t, p)}
}

// does holds against a world that events can be done.
func does(t *testing.T, w *world.World, l ...api.Event) {
	t.Helper()
	for _, x := range l {
		if e := w.Do(x); e != api.OK {
			t.Error(x, e)
		}
	}
}

// refuses holds against a world that an event has an error, and brings nothing.
func refuses(t *testing.T, w *world.World, x api.Event, want api.Errno) {
	t.Helper()
	was := w.Seen()
	if e := w.Do(x); e != want {
		t.Error(x, "is", e, "not", want)
	}
	if l := w.Seen(); !slices.Equal(l, was) {
		t.Error(x, "brings", l, "behind", was)
	}
}

// sees holds against a world that these are its arrivals, by Seen and by Has.
func sees(t *testing.T, w *world.World, want ...api.Arrival) {
	t.Helper()
	if l := w.Seen(); !slices.Equal(l, want) {
		t.Error(l, "not", want)
	}
	for _, x := range want {
		if !w.Has(x.Place, x.Packet) {
			t.Error(x, "isn't there")
		}
	}
}

// P15: net.Check's error, with no world; else one in which nothing was.
func TestNew(t *testing.T) {
	for _, n := range wrongNets() {
		want := net.Check(n)
		if w, e := world.New(n); w != nil || e != want || e == api.OK {
			t.Error(w, e, want)
		}
	}
	for _, n := range []api.Net{{}, chain(fire()), chain(nat()), chain(balancer())} {
		w := fresh(t, n)
		sees(t, w)
		for device := range 4 {
			for port := range 4 {
				for code := 0; code < api.Packets; code += 61 {
					p, _ := packet.Of(code)
					if w.Has(api.Place{Device: device, Port: port}, p) {
						t.Fatal(device, port, p)
					}
				}
			}
		}
	}
}

// wrongNets are nets with each error that one can have.
func wrongNets() []api.Net {
	large, twice, noKind, noName, link := chain(fire()), chain(fire()), chain(fire()), chain(fire()), chain(fire())
	for len(large.Devices) <= api.MaxDevices {
		large.Devices = append(large.Devices, api.Device{Name: string(rune('e' + len(large.Devices))), Kind: api.KRouter})
	}
	twice.Devices[2].Name = "a"
	noKind.Devices[1].Kind = 6
	noName.Devices[1].Name = ""
	link.Links[0].Q = 2
	return []api.Net{large, twice, noKind, noName, link}
}

// P15: what a host sends comes in where its port leads to, as it is.
func TestInject(t *testing.T) {
	n := chain(fire())
	w := fresh(t, n)
	does(t, w, send(t, 0, "1:2>3:4"))
	sees(t, w, came(t, in, "1:2>3:4"))
	does(t, w, send(t, 2, "2:0>2:0"), send(t, 0, "1:7>1:7"), send(t, 0, "1:2>3:4"))
	sees(t, w, came(t, in, "1:2>3:4"), came(t, out, "2:0>2:0"), came(t, in, "1:7>1:7"))
	for _, number := range wild { // neither is looked at
		x := send(t, 0, "1:0>0:0")
		x.Port, x.Choice = number, number
		does(t, w, x)
	}
	sees(t, w, came(t, in, "1:2>3:4"), came(t, out, "2:0>2:0"), came(t, in, "1:7>1:7"), came(t, in, "1:0>0:0"))
}

// P15: a host sends packets with its own address alone, and all of these.
func TestInjectAddr(t *testing.T) {
	n := chain(fire())
	w := fresh(t, n)
	count := 0
	for code := range api.Packets {
		p, _ := packet.Of(code)
		e := w.Do(api.Event{Kind: api.EInject, Device: 2, Packet: p})
		want := api.ErrArg
		if p.Src == 2 {
			want = api.OK
			count++
		}
		if e != want || w.Has(out, p) != (want == api.OK) {
			t.Fatal(p, e)
		}
	}
	if l := w.Seen(); len(l) != count || count != 1024 {
		t.Error(len(l), count)
	}
}

// P1, P15: no such device; one that is no host; a packet that none may be.
func TestInjectWrong(t *testing.T) {
	n := chain(fire())
	w := fresh(t, n)
	for _, device := range wild {
		x := api.Event{Kind: api.EInject, Device: device, Packet: read(t, "1:2>3:4")}
		want := api.ErrNone
		switch device {
		case 0:
			continue
		case 1, 2: // no host; not its address
			want = api.ErrArg
		}
		refuses(t, w, x, want)
		x.Packet.Src = 99 // what is told first, of two
		refuses(t, w, x, want)
	}
	for _, number := range wild {
		for part := range 4 {
			p := api.Packet{Src: 1, Dst: 3}
			*[]*int{&p.Src, &p.Dst, &p.Sport, &p.Dport}[part] = number
			if packet.Check(p) != api.OK || p.Src != 1 {
				refuses(t, w, api.Event{Kind: api.EInject, Packet: p}, api.ErrArg)
			}
		}
	}
	sees(t, w)
}

// P15: every kind but a host's is none that sends.
func TestInjectKinds(t *testing.T) {
	router := api.Device{Kind: api.KRouter, Rules: fire().Rules, Routes: []api.Route{{Port: 1}}}
	for _, d := range []api.Device{router, fire(), nat(), balancer()} {
		w := fresh(t, chain(d))
		p := api.Packet{Src: d.Addr, Dst: 2}
		refuses(t, w, api.Event{Kind: api.EInject, Device: 1, Packet: p}, api.ErrArg)
		sees(t, w)
	}
}

// P15: a host that is linked to nothing; its other errors are told first.
func TestInjectWithoutPeer(t *testing.T) {
	n := chain(fire())
	n.Links = n.Links[1:]
	w := fresh(t, n)
	refuses(t, w, send(t, 0, "1:2>3:4"), api.ErrState)
	refuses(t, w, send(t, 0, "2:2>3:4"), api.ErrArg)
	refuses(t, w, api.Event{Kind: api.EInject, Packet: api.Packet{Src: 1, Dport: 8}}, api.ErrArg)
	sees(t, w)
	does(t, w, send(t, 2, "2:2>3:4"))
}

// P15: two hosts that are linked to each other.
func TestInjectToHost(t *testing.T) {
	n := chain(fire())
	n.Links = []api.Link{{A: 2, B: 0}}
	w := fresh(t, n)
	does(t, w, send(t, 0, "1:2>3:4"), send(t, 2, "2:2>3:4"))
	sees(t, w, came(t, right, "1:2>3:4"), came(t, left, "2:2>3:4"))
	refuses(t, w, hop(t, right, "1:2>3:4", 0), api.ErrState) // a host sends nothing on
}

// P15: a packet is handled just where it came in, and as it was then.
func TestHopWhereItCameIn(t *testing.T) {
	n := chain(balancer())
	w := fresh(t, n)
	p := read(t, "1:2>3:4")
	does(t, w, send(t, 0, "1:2>3:4"))
	for _, at := range []api.Place{left, out, right, {Device: 3}, {Device: 1, Port: 2}, {Device: -1}, {Device: 1, Port: -1}} {
		refuses(t, w, hop(t, at, "1:2>3:4", 0), api.ErrState)
	}
	for _, other := range []string{"0:2>3:4", "1:0>3:4", "1:2>0:4", "1:2>3:0", "3:4>1:2"} {
		refuses(t, w, hop(t, in, other, 0), api.ErrState)
	}
	for _, number := range wild {
		for part := range 6 {
			x := api.Event{Kind: api.EHop, Device: 1, Packet: p}
			was := x
			*[]*int{&x.Device, &x.Port, &x.Packet.Src, &x.Packet.Dst, &x.Packet.Sport, &x.Packet.Dport}[part] = number
			if x != was {
				refuses(t, w, x, api.ErrState)
			}
		}
	}
	sees(t, w, came(t, in, "1:2>3:4"))
	does(t, w, hop(t, in, "1:2>3:4", -5))
	sees(t, w, came(t, in, "1:2>3:4"), came(t, right, "1:2>3:4"))
}

// P15: a packet that came in once may be handled any number of times, at any
// time, and each arrival is told once, where it first was.
func TestHopAgain(t *testing.T) {
	w := fresh(t, chain(nat()))
	does(t, w, send(t, 0, "1:2>3:4"), send(t, 0, "1:3>3:4"))
	refuses(t, w, hop(t, in, "1:2>3:4", 1), api.ErrArg)
	does(t, w, hop(t, in, "1:2>3:4", 2))
	refuses(t, w, hop(t, in, "1:3>3:4", 2), api.ErrFull)
	does(t, w, hop(t, in, "1:2>3:4", 0), hop(t, in, "1:2>3:4", 99)) // still from 2
	asked := []api.Arrival{came(t, in, "1:2>3:4"), came(t, in, "1:3>3:4"), came(t, right, "9:2>3:4")}
	sees(t, w, asked...)
	does(t, w, expire(t, 1, "0:0>0:0", 2), hop(t, in, "1:2>3:4", 0))
	asked = append(asked, came(t, right, "9:0>3:4"))
	sees(t, w, asked...)
	does(t, w, hop(t, in, "1:3>3:4", 2)) // came in before, and is the same behind it
	sees(t, w, asked...)
	does(t, w, send(t, 2, "2:0>9:2"), hop(t, out, "2:0>9:2", 0))
	sees(t, w, append(asked, came(t, out, "2:0>9:2"), came(t, left, "2:0>1:3"))...)
}

// P15: who only answers comes in only behind who asked, until it is forgotten;
// what came in stays.
func TestFire(t *testing.T) {
	w := fresh(t, chain(fire()))
	does(t, w, send(t, 2, "2:4>1:2"))
	answer := hop(t, out, "2:4>1:2", 0)
	refuses(t, w, answer, api.ErrState)
	does(t, w, send(t, 0, "1:2>2:4"))
	refuses(t, w, answer, api.ErrState) // sent, but not through yet
	does(t, w, hop(t, in, "1:2>2:4", 0), answer, answer)
	want := []api.Arrival{came(t, out, "2:4>1:2"), came(t, in, "1:2>2:4"), came(t, right, "1:2>2:4"), came(t, left, "2:4>1:2")}
	sees(t, w, want...)
	does(t, w, expire(t, 1, "1:2>2:4", 0))
	sees(t, w, want...)
	refuses(t, w, answer, api.ErrState)
	does(t, w, hop(t, in, "1:2>2:4", 0), answer)
	sees(t, w, want...)
}

// P15: a balancer's back is forgotten by its packet, and another one taken.
func TestBalancer(t *testing.T) {
	w := fresh(t, chain(balancer()))
	does(t, w, send(t, 0, "1:2>5:4"))
	refuses(t, w, hop(t, in, "1:2>5:4", 2), api.ErrArg)
	does(t, w, hop(t, in, "1:2>5:4", 0), hop(t, in, "1:2>5:4", 1))
	sees(t, w, came(t, in, "1:2>5:4"), came(t, right, "1:2>7:4"))
	does(t, w, expire(t, 1, "1:2>5:4", 77), hop(t, in, "1:2>5:4", 1))
	sees(t, w, came(t, in, "1:2>5:4"), came(t, right, "1:2>7:4"), came(t, right, "1:2>2:4"))
}

// P1, P15: Forget's errors, of what was sent and of what wasn't.
func TestExpireWrong(t *testing.T) {
	for _, d := range []api.Device{fire(), nat(), balancer()} {
		w := fresh(t, chain(d))
		does(t, w, send(t, 0, "1:2>5:4"))
		for _, device := range wild {
			want := api.ErrNone
			if device == 1 {
				want = api.ErrState
			}
			for _, number := range wild {
				refuses(t, w, expire(t, device, "1:2>5:4", number), want)
				wrong := api.Packet{Src: number, Dst: number, Sport: number, Dport: number}
				refuses(t, w, api.Event{Kind: api.EExpire, Device: device, Packet: wrong, Port: number}, want)
			}
		}
		does(t, w, hop(t, in, "1:2>5:4", 0))
		x := expire(t, 1, "1:2>5:4", 0)
		x.Port = -9 // not looked at
		does(t, w, x)
		refuses(t, w, x, api.ErrState)
	}
}

// P15: the port of a pool that is forgotten is Choice, not Port.
func TestExpirePort(t *testing.T) {
	w := fresh(t, chain(nat()))
	does(t, w, send(t, 0, "1:2>3:4"), hop(t, in, "1:2>3:4", 2))
	refuses(t, w, api.Event{Kind: api.EExpire, Device: 1, Port: 2}, api.ErrState)
	does(t, w, api.Event{Kind: api.EExpire, Device: 1, Choice: 2, Packet: api.Packet{Src: -1}})
}

// P1, P15: a kind that is none, whatever else the event has.
func TestKinds(t *testing.T) {
	w := fresh(t, chain(fire()))
	does(t, w, send(t, 0, "1:2>3:4"))
	for _, kind := range wild {
		if kind >= api.EInject && kind <= api.EExpire {
			continue
		}
		for _, device := range wild {
			refuses(t, w, api.Event{Kind: kind, Device: device, Packet: read(t, "1:2>3:4")}, api.ErrArg)
			refuses(t, w, api.Event{Kind: kind, Device: device, Packet: api.Packet{Src: device}}, api.ErrArg)
		}
	}
}

// P1, P15: Has is of the place and of the packet, each with all its parts.
func TestHas(t *testing.T) {
	w := fresh(t, chain(fire()))
	does(t, w, send(t, 0, "1:2>3:4"))
	for _, number := range wild {
		for part := range 6 {
			at, p := in, read(t, "1:2>3:4")
			*[]*int{&at.Device, &at.Port, &p.Src, &p.Dst, &p.Sport, &p.Dport}[part] = number
			want := at == in && p == read(t, "1:2>3:4")
			if w.Has(at, p) != want {
				t.Error(at, p, !want)
			}
		}
	}
	sees(t, w, came(t, in, "1:2>3:4")) // asking changes nothing
}

// P1: a world that New didn't make is one of a net without devices.
func TestZero(t *testing.T) {
	var w world.World
	for _, number := range wild {
		for kind := -1; kind <= 5; kind++ {
			want := []api.Errno{api.ErrArg, api.ErrNone, api.ErrState, api.ErrNone}[max(0, kind)&3]
			if kind > 3 {
				want = api.ErrArg
			}
			refuses(t, &w, api.Event{Kind: kind, Device: number, Port: number, Packet: api.Packet{Src: number}, Choice: number}, want)
		}
		if w.Has(api.Place{Device: number}, api.Packet{Dst: number}) {
			t.Error(number)
		}
	}
	empty := fresh(t, api.Net{})
	refuses(t, empty, api.Event{Kind: api.EInject}, api.ErrNone)
	refuses(t, empty, api.Event{Kind: api.EHop}, api.ErrState)
	refuses(t, empty, api.Event{Kind: api.EExpire}, api.ErrNone)
}

// P2: what Seen answers is the caller's own, its spare room included.
func TestSeenIsNew(t *testing.T) {
	w := fresh(t, chain(fire()))
	want := []api.Arrival{}
	for port := range 8 {
		p := api.Packet{Src: 1, Dst: 2, Dport: port}
		does(t, w, api.Event{Kind: api.EInject, Packet: p})
		want = append(want, api.Arrival{Place: in, Packet: p})
		a, b := w.Seen(), w.Seen()
		for i := range a {
			a[i] = api.Arrival{}
		}
		for i := range a[:cap(a)] {
			a[:cap(a)][i] = api.Arrival{Place: right}
		}
		if !slices.Equal(b, want) {
			t.Fatal("another answer", b)
		}
		sees(t, w, want...)
	}
}

// P2: a net that is handed in stays as it is, and a world has its own.
func TestNetIsNotKept(t *testing.T) {
	for _, d := range []api.Device{fire(), nat(), balancer()} {
		n := chain(d)
		w := fresh(t, n)
		if e := net.Check(n); e != api.OK || !slices.Equal(n.Links, chain(d).Links) {
			t.Error("changed", n)
		}
		for i := range n.Devices {
			m := &n.Devices[i]
			for j := range m.Rules {
				m.Rules[j] = api.Rule{}
			}
			for j := range m.Backs {
				m.Backs[j] = 11 + j
			}
			*m = api.Device{Name: "x", Kind: api.KRouter, Addr: 8}
		}
		for i := range n.Links {
			n.Links[i] = api.Link{A: 9}
		}
		does(t, w, send(t, 0, "1:2>5:4"), hop(t, in, "1:2>5:4", 0), send(t, 2, "2:0>1:0"))
		other := map[int]string{api.KFire: "1:2>5:4", api.KNat: "9:0>5:4", api.KBalancer: "1:2>7:4"}[d.Kind]
		sees(t, w, came(t, in, "1:2>5:4"), came(t, right, other), came(t, out, "2:0>1:0"))
	}
}
