package world_test

import (
	"fmt"
	"math/rand"
	"slices"
	"sync"
	"testing"

	"wireward/api"
	"wireward/match"
	"wireward/net"
	"wireward/packet"
	"wireward/step"
	"wireward/world"
)

// runs holds a history against what it brings.
func runs(t *testing.T, n api.Net, l []api.Event, want ...api.Arrival) {
	t.Helper()
	if seen, k, e := world.Run(n, l); e != api.OK || k != len(want) || !slices.Equal(seen, want) {
		t.Error(seen, k, e, "not", want)
	}
}

// fails holds against a history that its event of a number has an error.
func fails(t *testing.T, n api.Net, l []api.Event, at int, want api.Errno) {
	t.Helper()
	if seen, k, e := world.Run(n, l); seen != nil || k != at || e != want {
		t.Error(seen, k, e, "not", at, want)
	}
}

// P16: what a history brings, and how many, each once.
func TestRun(t *testing.T) {
	n := chain(fire())
	runs(t, n, nil)
	runs(t, n, []api.Event{})
	runs(t, api.Net{}, nil)
	l := []api.Event{
		send(t, 2, "2:4>1:2"), send(t, 0, "1:2>2:4"), hop(t, in, "1:2>2:4", 0), hop(t, in, "1:2>2:4", 0),
		hop(t, out, "2:4>1:2", 0), send(t, 2, "2:4>1:2"), expire(t, 1, "1:2>2:4", 0),
	}
	want := []api.Arrival{came(t, out, "2:4>1:2"), came(t, in, "1:2>2:4"), came(t, right, "1:2>2:4"), came(t, left, "2:4>1:2")}
	runs(t, n, l, want...)
	runs(t, n, l, want...) // a new world each time
	for k, some := range []int{0, 1, 2, 3, 3, 4, 4, 4} {
		runs(t, n, l[:k], want[:some]...)
	}
}

// P16: the number and the error of the first event that has one.
func TestRunFails(t *testing.T) {
	n := chain(fire())
	good := []api.Event{send(t, 2, "2:4>1:2"), send(t, 0, "1:2>2:4"), hop(t, in, "1:2>2:4", 0), hop(t, out, "2:4>1:2", 0)}
	wrong := map[api.Errno]api.Event{
		api.ErrNone:  {Kind: api.EInject, Device: 3},
		api.ErrArg:   {Kind: 4},
		api.ErrState: {Kind: api.EHop, Device: 1, Packet: read(t, "1:2>3:4")},
	}
	for want, x := range wrong {
		for i := range len(good) + 1 {
			l := slices.Insert(slices.Clone(good), i, x)
			fails(t, n, l, i+1, want)
			fails(t, n, append(l, api.Event{Kind: 9}, api.Event{Kind: api.EExpire, Device: 9}), i+1, want)
		}
	}
	fails(t, n, append(good, expire(t, 1, "1:2>2:4", 0), hop(t, out, "2:4>1:2", 0)), 6, api.ErrState)
	fails(t, chain(nat()), []api.Event{
		send(t, 0, "1:2>2:4"), send(t, 0, "1:3>2:4"), hop(t, in, "1:2>2:4", 0), hop(t, in, "1:3>2:4", 0),
	}, 4, api.ErrFull)
}

// P16: as many events as there may be, and one more; what is told first.
func TestRunLimits(t *testing.T) {
	n := chain(fire())
	var l []api.Event
	var want []api.Arrival
	for k := range api.MaxEvents {
		p := api.Packet{Src: 1, Dst: k / 8 % 16, Sport: k / 128 % 8, Dport: k % 8}
		l = append(l, api.Event{Kind: api.EInject, Packet: p})
		if k < 1024 {
			want = append(want, api.Arrival{Place: in, Packet: p})
		}
	}
	if len(l) != 2000 {
		t.Fatal(len(l))
	}
	runs(t, n, l, want...)
	wrong := slices.Clone(l)
	wrong[1999].Kind = 0
	fails(t, n, wrong, 2000, api.ErrArg)
	fails(t, n, append(l, l[0]), 0, api.ErrLarge)
	wrong[0].Kind = 0
	fails(t, n, append(wrong, l[0]), 0, api.ErrLarge)
	for _, bad := range wrongNets() {
		e := net.Check(bad)
		fails(t, bad, nil, 0, e)
		fails(t, bad, []api.Event{{Kind: 9}}, 0, e)
		fails(t, bad, append(l, l[0]), 0, e)
	}
}

// P2: what is handed in stays as it is, the room behind it too.
func TestRunChangesNothing(t *testing.T) {
	n := chain(balancer())
	l := append(make([]api.Event, 0, 8), send(t, 0, "1:2>5:4"), hop(t, in, "1:2>5:4", 1))
	whole := l[:cap(l)]
	whole[2] = api.Event{Kind: 7, Device: 7}
	was := slices.Clone(whole)
	seen, _, e := world.Run(n, l)
	for i := range seen[:cap(seen)] {
		seen[:cap(seen)][i] = api.Arrival{}
	}
	if e != api.OK || !slices.Equal(whole, was) || fmt.Sprint(n) != fmt.Sprint(chain(balancer())) {
		t.Error(e, whole, n)
	}
	runs(t, n, l, came(t, in, "1:2>5:4"), came(t, right, "1:2>2:4"))
}

// model is a world, written apart from the program but for the memory: what was
// is gone through from its beginning to its end each time.
type model struct {
	n    api.Net
	m    *step.Memory
	seen []api.Arrival
}

func (w *model) arrives(x api.Arrival) api.Errno {
	if !slices.Contains(w.seen, x) {
		w.seen = append(w.seen, x)
	}
	return api.OK
}

func (w *model) sends(x api.Event) api.Errno {
	if x.Device < 0 || x.Device >= len(w.n.Devices) {
		return api.ErrNone
	}
	if d := w.n.Devices[x.Device]; d.Kind != 1 || x.Packet.Src != d.Addr || packet.Check(x.Packet) != api.OK {
		return api.ErrArg
	}
	for _, l := range w.n.Links {
		if l.A == x.Device {
			return w.arrives(api.Arrival{Place: api.Place{Device: l.B, Port: l.Q}, Packet: x.Packet})
		}
		if l.B == x.Device {
			return w.arrives(api.Arrival{Place: api.Place{Device: l.A, Port: l.P}, Packet: x.Packet})
		}
	}
	return api.ErrState
}

func (w *model) do(x api.Event) api.Errno {
	switch x.Kind {
	case 1:
		return w.sends(x)
	case 2:
		at := api.Place{Device: x.Device, Port: x.Port}
		if !slices.Contains(w.seen, api.Arrival{Place: at, Packet: x.Packet}) {
			return api.ErrState
		}
		next, e := w.m.Handle(at, x.Packet, x.Choice)
		if e != api.OK {
			return e
		}
		return w.arrives(next)
	case 3:
		return w.m.Forget(x.Device, x.Packet, x.Choice)
	}
	return api.ErrArg
}

// few are the addresses of the nets that are tried, so that packets meet.
var few = []int{0, 1, 5, 9}

func anyDevice(r *rand.Rand, kind int) api.Device {
	d := api.Device{Kind: kind}
	order := r.Perm(len(few))
	switch kind {
	case api.KHost:
		d.Addr = few[order[0]]
	case api.KNat:
		d.Addr, d.Pool = few[order[0]], uint8(1+r.Intn(7))
	case api.KBalancer:
		d.Addr = few[order[0]]
		for _, k := range order[1 : 2+r.Intn(3)] {
			d.Backs = append(d.Backs, few[k])
		}
	case api.KRouter, api.KFire:
		d.Rules = append(d.Rules, api.Rule{Permit: true, Match: match.All()})
	}
	if kind == api.KRouter {
		d.Routes = append(d.Routes, api.Route{Port: r.Intn(4)}, api.Route{Value: 8, Bits: 1, Port: r.Intn(4)}, api.Route{Value: 1, Bits: 4, Port: r.Intn(4)})
	}
	return d
}

// anyNet is a net most of whose ports are linked.
func anyNet(r *rand.Rand) api.Net {
	var n api.Net
	var places []api.Place
	for i := range 2 + r.Intn(6) {
		d := anyDevice(r, []int{1, 1, 1, 2, 3, 4, 4, 5}[r.Intn(8)])
		d.Name = string(rune('a' + i))
		n.Devices = append(n.Devices, d)
		for port := range net.Ports(d.Kind) {
			places = append(places, api.Place{Device: i, Port: port})
		}
	}
	r.Shuffle(len(places), func(i, j int) { places[i], places[j] = places[j], places[i] })
	for i := 0; i+1 < len(places); i += 2 {
		if a, b := places[i], places[i+1]; r.Intn(8) > 0 && len(n.Links) < api.MaxLinks {
			n.Links = append(n.Links, api.Link{A: a.Device, P: a.Port, B: b.Device, Q: b.Port})
		}
	}
	return n
}

// anyEvent is one that can often be done, behind what was seen.
func anyEvent(r *rand.Rand, n api.Net, seen []api.Arrival) api.Event {
	addr := func() int { return few[r.Intn(len(few))] }
	x := api.Event{Kind: 1 + r.Intn(3), Device: r.Intn(len(n.Devices)), Port: r.Intn(2), Choice: r.Intn(4)}
	x.Packet = api.Packet{Src: addr(), Dst: addr(), Sport: r.Intn(2), Dport: r.Intn(2)}
	if x.Kind == api.EInject && r.Intn(4) > 0 {
		x.Packet.Src = n.Devices[x.Device].Addr
	}
	if len(seen) > 0 && x.Kind != api.EInject && r.Intn(8) > 0 {
		was := seen[r.Intn(len(seen))]
		x.Device, x.Port, x.Packet = was.Place.Device, was.Place.Port, was.Packet
	}
	if r.Intn(20) == 0 {
		parts := []*int{&x.Kind, &x.Device, &x.Port, &x.Choice, &x.Packet.Src, &x.Packet.Dst, &x.Packet.Sport, &x.Packet.Dport}
		*parts[r.Intn(len(parts))] = wild[r.Intn(len(wild))]
	}
	return x
}

// P1, P15, P16: many events, one behind the other, in nets of all kinds.
func TestIsModel(t *testing.T) {
	tried := map[string]int{}
	for seed := range int64(400) {
		r := rand.New(rand.NewSource(seed))
		n := anyNet(r)
		m, _ := step.New(n)
		w, want := fresh(t, n), &model{n: n, m: m}
		var good []api.Event
		for range 200 {
			x := anyEvent(r, n, want.seen)
			bad := want.do(x)
			if e := w.Do(x); e != bad {
				t.Fatal(n, x, e, bad)
			}
			tried[fmt.Sprint(min(4, max(0, x.Kind)), " ", bad)]++
			if bad == api.OK {
				good = append(good, x)
			} else if r.Intn(20) == 0 { // what can't be done now, behind all that was
				fails(t, n, append(slices.Clone(good), x, api.Event{Kind: 9}), len(good)+1, bad)
			}
		}
		sees(t, w, want.seen...)
		runs(t, n, good, want.seen...)
	}
	for _, s := range []string{"0 1", "4 1", "1 0", "1 1", "1 4", "1 7", "2 0", "2 1", "2 6", "2 7", "3 0", "3 4", "3 7"} {
		if tried[s] < 50 {
			t.Error("hardly tried", s, tried[s])
		}
	}
}

// P2: worlds know nothing of each other, those in use at the same time included.
func TestNothingIsShared(t *testing.T) {
	r := rand.New(rand.NewSource(3))
	n := anyNet(r)
	for len(n.Devices) < 7 {
		n = anyNet(r)
	}
	answers := make([]string, 8)
	var done sync.WaitGroup
	for k := range answers {
		w := fresh(t, n)
		done.Go(func() {
			own := rand.New(rand.NewSource(5))
			for range 500 {
				x := anyEvent(own, n, w.Seen())
				answers[k] += fmt.Sprint(w.Do(x))
			}
			answers[k] += fmt.Sprint(w.Seen())
		})
	}
	done.Wait()
	for k, s := range answers {
		if s != answers[0] {
			t.Error("world", k, "answers otherwise")
		}
	}
}
