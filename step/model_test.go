package step_test

import (
	"fmt"
	"math/rand"
	"slices"
	"sync"
	"testing"

	"wireward/acl"
	"wireward/api"
	"wireward/fib"
	"wireward/match"
	"wireward/step"
)

// learnt is what a device was told once: of a packet or of a port it has an
// address and a port.
type learnt struct {
	device     int
	of         [4]int
	addr, port int
}

// model is a memory, written apart from the program: what is known is gone
// through from its beginning to its end each time.
type model struct {
	n api.Net
	l []learnt
}

func parts(p api.Packet) [4]int { return [4]int{p.Src, p.Sport, p.Dst, p.Dport} }

// find is what a device knows that is so.
func (m *model) find(device int, is func(learnt) bool) (learnt, bool) {
	for _, x := range m.l {
		if x.device == device && is(x) {
			return x, true
		}
	}
	return learnt{}, false
}

func (m *model) of(device int, key [4]int) (learnt, bool) {
	return m.find(device, func(x learnt) bool { return x.of == key })
}

// peer is net.Peer, of a net that net.Check takes.
func (m *model) peer(device, port int) (api.Place, bool) {
	for _, l := range m.n.Links {
		switch [2]int{device, port} {
		case [2]int{l.A, l.P}:
			return api.Place{Device: l.B, Port: l.Q}, true
		case [2]int{l.B, l.Q}:
			return api.Place{Device: l.A, Port: l.P}, true
		}
	}
	return api.Place{}, false
}

func (m *model) handle(at api.Place, p api.Packet, choice int) (api.Arrival, api.Errno) {
	if at.Device < 0 || at.Device >= len(m.n.Devices) || at.Port < 0 {
		return api.Arrival{}, api.ErrNone
	}
	i, d := at.Device, m.n.Devices[at.Device]
	if at.Port >= []int{0, 1, 4, 2, 2, 2}[d.Kind] {
		return api.Arrival{}, api.ErrNone
	}
	if p.Src&^15 != 0 || p.Dst&^15 != 0 || p.Sport&^7 != 0 || p.Dport&^7 != 0 {
		return api.Arrival{}, api.ErrArg
	}
	goes, port, more := false, 1-at.Port, []learnt(nil)
	switch fmt.Sprint(d.Kind, " ", at.Port) {
	case "2 0", "2 1", "2 2", "2 3":
		port, goes = fib.Out(d.Routes, p.Dst)
		goes = goes && acl.Lets(d.Rules, p)
	case "3 0":
		goes = acl.Lets(d.Rules, p)
		more = []learnt{{device: i, of: parts(p)}}
	case "3 1":
		_, goes = m.of(i, [4]int{p.Dst, p.Dport, p.Src, p.Sport})
	case "4 0":
		x, ok := m.find(i, func(x learnt) bool { return x.addr == p.Src && x.port == p.Sport })
		if !ok {
			pool := map[int]bool{}
			for k := range 8 {
				pool[k] = d.Pool&(1<<k) != 0
			}
			if !pool[choice] {
				return api.Arrival{}, api.ErrArg
			}
			if _, full := m.of(i, [4]int{choice}); full {
				return api.Arrival{}, api.ErrFull
			}
			x = learnt{i, [4]int{choice}, p.Src, p.Sport}
			more = []learnt{x}
		}
		goes, p.Src, p.Sport = true, d.Addr, x.of[0]
	case "4 1":
		x, ok := m.of(i, [4]int{p.Dport})
		if goes = ok && p.Dst == d.Addr; goes {
			p.Dst, p.Dport = x.addr, x.port
		}
	case "5 0":
		goes = true
		if p.Dst == d.Addr {
			x, ok := m.of(i, parts(p))
			if !ok {
				if choice < 0 || choice > len(d.Backs)-1 {
					return api.Arrival{}, api.ErrArg
				}
				x = learnt{device: i, of: parts(p), addr: d.Backs[choice]}
				more = []learnt{x}
			}
			p.Dst = x.addr
		}
	case "5 1":
		goes = true
		if x, ok := m.of(i, [4]int{p.Dst, p.Dport, d.Addr, p.Sport}); ok && x.addr == p.Src {
			p.Src = d.Addr
		}
	}
	next, ok := m.peer(i, port)
	if !goes || !ok {
		return api.Arrival{}, api.ErrState
	}
	m.l = append(m.l, more...)
	return api.Arrival{Place: next, Packet: p}, api.OK
}

func (m *model) forget(device int, p api.Packet, port int) api.Errno {
	if device < 0 || device >= len(m.n.Devices) || m.n.Devices[device].Kind < api.KFire {
		return api.ErrNone
	}
	key := parts(p)
	if m.n.Devices[device].Kind == api.KNat {
		key = [4]int{port}
	}
	was := len(m.l)
	m.l = slices.DeleteFunc(m.l, func(x learnt) bool { return x.device == device && x.of == key })
	if len(m.l) == was {
		return api.ErrState
	}
	return api.OK
}

// facts are what the model knows, as knows tells it of a memory.
func (m *model) facts() []fact {
	var l []fact
	for p := range all {
		for _, x := range m.l {
			if m.n.Devices[x.device].Kind != api.KNat && x.of == parts(p) {
				l = append(l, fact{device: x.device, packet: p})
			}
		}
	}
	for port := range 8 {
		for _, x := range m.l {
			if m.n.Devices[x.device].Kind == api.KNat && x.of == [4]int{port} {
				l = append(l, fact{device: x.device, port: port})
			}
		}
	}
	slices.SortStableFunc(l, func(x, y fact) int { return x.device - y.device })
	return slices.Compact(l) // what was asked twice stands there twice
}

// few are the addresses of the nets that are tried, so that packets meet.
var few = []int{0, 1, 5, 9}

func anyDevice(r *rand.Rand, kind int) api.Device {
	d := api.Device{Kind: kind}
	order := r.Perm(len(few))
	switch kind {
	case api.KHost:
		d.Addr = few[order[0]]
	case api.KNat:
		d.Addr, d.Pool = few[order[0]], uint8(1+r.Intn(15))
	case api.KBalancer:
		d.Addr = few[order[0]]
		for _, k := range order[1 : 2+r.Intn(3)] {
			d.Backs = append(d.Backs, few[k])
		}
	case api.KRouter, api.KFire:
		if r.Intn(2) == 0 {
			m := api.Match{Src: uint16(r.Uint32()), Dst: uint16(r.Uint32()), Sport: 0xff, Dport: uint8(r.Uint32())}
			d.Rules = append(d.Rules, api.Rule{Permit: r.Intn(3) == 0, Match: m})
		}
		d.Rules = append(d.Rules, api.Rule{Permit: true, Match: match.All()})
	}
	if kind == api.KRouter {
		for bits := range 1 + r.Intn(4) {
			d.Routes = append(d.Routes, api.Route{Value: few[order[0]] >> (4 - bits) << (4 - bits), Bits: bits, Port: r.Intn(4)})
		}
	}
	return d
}

// anyNet is a net most of whose ports are linked.
func anyNet(r *rand.Rand) api.Net {
	var n api.Net
	var places []api.Place
	for i := range 1 + r.Intn(6) {
		d := anyDevice(r, []int{1, 2, 3, 3, 4, 4, 5, 5}[r.Intn(8)])
		d.Name = string(rune('a' + i))
		n.Devices = append(n.Devices, d)
		for port := range []int{0, 1, 4, 2, 2, 2}[d.Kind] {
			places = append(places, api.Place{Device: i, Port: port})
		}
	}
	r.Shuffle(len(places), func(i, j int) { places[i], places[j] = places[j], places[i] })
	for i := 0; i+1 < len(places); i += 2 {
		if a, b := places[i], places[i+1]; r.Intn(6) > 0 && len(n.Links) < api.MaxLinks {
			n.Links = append(n.Links, api.Link{A: a.Device, P: a.Port, B: b.Device, Q: b.Port})
		}
	}
	return n
}

// tries makes places, packets and choices that follow one another.
type tries struct {
	r    *rand.Rand
	n    api.Net
	last []api.Arrival
}

func (x *tries) number(bound int) int {
	if x.r.Intn(60) == 0 {
		return wild[x.r.Intn(len(wild))]
	}
	return x.r.Intn(bound)
}

func (x *tries) next() (api.Place, api.Packet, int) {
	addr := func() int { return few[x.r.Intn(len(few))] }
	at := api.Place{Device: x.number(len(x.n.Devices)), Port: x.number(2)}
	p := api.Packet{Src: addr(), Dst: addr(), Sport: x.r.Intn(2), Dport: x.r.Intn(2)}
	if x.r.Intn(60) == 0 {
		*[]*int{&p.Src, &p.Dst, &p.Sport, &p.Dport}[x.r.Intn(4)] = wild[x.r.Intn(len(wild))]
	}
	if len(x.last) > 0 && x.r.Intn(2) == 0 {
		// What was told, where it came in, or its answer, at the other end.
		was := x.last[x.r.Intn(len(x.last))]
		at, p = was.Place, was.Packet
		if x.r.Intn(2) == 0 {
			at, _ = (&model{n: x.n}).peer(at.Device, at.Port)
			p = api.Packet{Src: p.Dst, Sport: p.Dport, Dst: p.Src, Dport: p.Sport}
		}
	}
	return at, p, x.number(4)
}

// P1, P12 to P14: many calls, one behind the other, in nets of all kinds.
func TestIsModel(t *testing.T) {
	handled, forgot := map[string]int{}, map[api.Errno]int{}
	for seed := range int64(400) {
		r := rand.New(rand.NewSource(seed))
		n := anyNet(r)
		m, want, x := fresh(t, n), &model{n: n}, &tries{r: r, n: n}
		for range 300 {
			at, p, choice := x.next()
			if r.Intn(8) == 0 {
				device := x.number(len(n.Devices))
				if len(want.l) > 0 && r.Intn(2) == 0 {
					known := want.l[r.Intn(len(want.l))]
					device, choice = known.device, known.of[0]
					p = api.Packet{Src: known.of[0], Sport: known.of[1], Dst: known.of[2], Dport: known.of[3]}
				}
				e, bad := m.Forget(device, p, choice), want.forget(device, p, choice)
				if e != bad {
					t.Fatal(n, device, p, choice, e, bad)
				}
				forgot[bad]++
				continue
			}
			if r.Intn(50) == 0 {
				m = m.Copy()
			}
			arrival, bad := want.handle(at, p, choice)
			if a, e := m.Handle(at, p, choice); a != arrival || e != bad {
				t.Fatal(n, at, p, choice, a, e, arrival, bad)
			}
			kind := 0
			if bad != api.ErrNone {
				kind = n.Devices[at.Device].Kind
			}
			handled[fmt.Sprint(kind, " ", at.Port&1, " ", bad)]++
			if bad == api.OK {
				x.last = append(x.last, arrival)
			}
		}
		if l := knows(m, n); !slices.Equal(l, want.facts()) {
			t.Fatal(n, l, want.facts())
		}
	}
	for _, s := range []string{
		"0 0 4", "0 1 4", "1 0 7", "2 0 0", "2 1 0", "2 0 7", "2 1 7", "3 0 0", "3 0 7", "3 1 0", "3 1 7", "3 1 1",
		"4 0 0", "4 0 1", "4 0 6", "4 0 7", "4 1 0", "4 1 7", "5 0 0", "5 0 1", "5 0 7", "5 1 0", "5 1 7",
	} {
		if handled[s] < 50 {
			t.Error("hardly tried", s, handled[s])
		}
	}
	for _, e := range []api.Errno{api.OK, api.ErrNone, api.ErrState} {
		if forgot[e] < 100 {
			t.Error("hardly tried: forget", e, forgot[e])
		}
	}
}

// P2: memories know nothing of each other, those in use at the same time
// included.
func TestNothingIsShared(t *testing.T) {
	r := rand.New(rand.NewSource(7))
	n := anyNet(r)
	for len(n.Devices) < 5 {
		n = anyNet(r)
	}
	whole := fresh(t, n)
	answers := make([][]api.Arrival, 8)
	var done sync.WaitGroup
	for k := range answers {
		m, e := whole.Copy(), api.OK
		if k%2 == 0 {
			m, e = step.New(n)
		}
		if e != api.OK {
			t.Fatal(e)
		}
		done.Go(func() {
			x := &tries{r: rand.New(rand.NewSource(9)), n: n}
			for range 2000 {
				at, p, choice := x.next()
				a, e := m.Handle(at, p, choice)
				answers[k] = append(answers[k], a, api.Arrival{Place: api.Place{Device: int(e)}})
				if e == api.OK {
					x.last = append(x.last, a)
				}
				m.Forget(at.Device, p, choice/2)
			}
		})
	}
	done.Wait()
	for k, l := range answers {
		if !slices.Equal(l, answers[0]) {
			t.Error("memory", k, "answers otherwise")
		}
	}
	if l := knows(whole, n); len(l) != 0 {
		t.Error(l)
	}
}
