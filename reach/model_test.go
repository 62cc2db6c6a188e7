package reach_test

import (
	"fmt"
	"math/rand"
	"slices"
	"testing"

	"wireward/acl"
	"wireward/api"
	"wireward/bdd"
	"wireward/fib"
	"wireward/match"
	"wireward/packet"
	"wireward/reach"
	"wireward/step"
	"wireward/world"
)

var portsOf = []int{0, 1, 4, 2, 2, 2} // by kind

// model has the round of each packet at each place, packet by packet.
type model struct {
	n      api.Net
	round  [api.MaxDevices][4][]int // by codes; -1 of those that don't come
	rounds int
}

func (m *model) peer(device, port int) (api.Place, bool) {
	for _, l := range m.n.Links {
		switch [2]int{device, port} {
		case [2]int{l.A, l.P}:
			return api.Place{Device: l.B, Port: l.Q}, true
		case [2]int{l.B, l.Q}:
			return api.Place{Device: l.A, Port: l.P}, true
		}
	}
	return api.Place{}, false
}

// at is the packets that are at a port so far.
func (m *model) at(l []api.Packet, device, port int) []api.Packet {
	var in []api.Packet
	for code, k := range m.round[device][port] {
		if k >= 0 {
			in = append(in, l[code])
		}
	}
	return in
}

func codeOf(p api.Packet) int { return p.Src<<10 | p.Dst<<6 | p.Sport<<3 | p.Dport }

func (m *model) has(device, port int, p api.Packet) bool {
	return m.round[device][port][codeOf(p)] >= 0
}

// modelOf goes from round to round, and asks tell what devices may tell then.
func modelOf(t *testing.T, n api.Net, tell func(m *model, l []api.Packet, add func(api.Place, api.Packet))) *model {
	t.Helper()
	m := &model{n: n}
	for i := range m.round {
		for port := range m.round[i] {
			m.round[i][port] = slices.Repeat([]int{-1}, api.Packets)
		}
	}
	l := all(t)
	for i, d := range n.Devices {
		next, ok := m.peer(i, 0)
		for code, p := range l {
			if ok && d.Kind == api.KHost && p.Src == d.Addr {
				m.round[next.Device][next.Port][code] = 0
			}
		}
	}
	for {
		var more []api.Arrival
		tell(m, l, func(at api.Place, p api.Packet) {
			if !m.has(at.Device, at.Port, p) {
				more = append(more, api.Arrival{Place: at, Packet: p})
			}
		})
		if len(more) == 0 {
			return m
		}
		m.rounds++
		for _, x := range more {
			m.round[x.Place.Device][x.Place.Port][codeOf(x.Packet)] = m.rounds
		}
	}
}

// byWords tells what devices may tell as the chapter has it, word by word.
func byWords(m *model, l []api.Packet, add func(api.Place, api.Packet)) {
	for i, d := range m.n.Devices {
		for port := range portsOf[d.Kind] {
			for _, p := range m.at(l, i, port) {
				m.words(i, port, p, l, func(port int, p api.Packet) {
					if next, ok := m.peer(i, port); ok {
						add(next, p)
					}
				})
			}
		}
	}
}

func (m *model) words(i, port int, p api.Packet, l []api.Packet, goes func(int, api.Packet)) {
	d := m.n.Devices[i]
	_, linked := m.peer(i, 1)
	switch {
	case d.Kind == api.KRouter:
		if out, ok := fib.Out(d.Routes, p.Dst); ok && acl.Lets(d.Rules, p) {
			goes(out, p)
		}
	case d.Kind == api.KFire && port == 0:
		if acl.Lets(d.Rules, p) {
			goes(1, p)
		}
	case d.Kind == api.KFire:
		flip := api.Packet{Src: p.Dst, Sport: p.Dport, Dst: p.Src, Dport: p.Sport}
		if m.has(i, 0, flip) && acl.Lets(d.Rules, flip) && linked {
			goes(0, p)
		}
	case d.Kind == api.KNat && port == 0:
		for k := range 8 {
			if d.Pool&(1<<k) != 0 {
				goes(1, api.Packet{Src: d.Addr, Sport: k, Dst: p.Dst, Dport: p.Dport})
			}
		}
	case d.Kind == api.KNat:
		if p.Dst != d.Addr || d.Pool&(1<<p.Dport) == 0 || !linked {
			return
		}
		for _, q := range m.at(l, i, 0) {
			goes(0, api.Packet{Src: p.Src, Sport: p.Sport, Dst: q.Src, Dport: q.Sport})
		}
	case d.Kind == api.KBalancer && port == 0:
		if p.Dst != d.Addr {
			goes(1, p)
			return
		}
		for _, back := range d.Backs {
			goes(1, api.Packet{Src: p.Src, Sport: p.Sport, Dst: back, Dport: p.Dport})
		}
	case d.Kind == api.KBalancer:
		goes(0, p)
		asked := api.Packet{Src: p.Dst, Sport: p.Dport, Dst: d.Addr, Dport: p.Sport}
		if slices.Contains(d.Backs, p.Src) && m.has(i, 0, asked) && linked {
			goes(0, api.Packet{Src: d.Addr, Sport: p.Sport, Dst: p.Dst, Dport: p.Dport})
		}
	}
}

// byMemories tells what memories of package step tell, with all that could be
// in them.
func byMemories(m *model, l []api.Packet, add func(api.Place, api.Packet)) {
	for i, d := range m.n.Devices {
		memory, _ := step.New(m.n)
		handle := func(port, choice int, in ...api.Packet) {
			for _, p := range in {
				if x, e := memory.Handle(api.Place{Device: i, Port: port}, p, choice); e == api.OK {
					add(x.Place, x.Packet)
				}
			}
		}
		inside, outside := m.at(l, i, 0), m.at(l, i, 1)
		switch d.Kind {
		case api.KRouter:
			for port := range 4 {
				handle(port, 0, m.at(l, i, port)...)
			}
		case api.KFire:
			handle(0, 0, inside...)
			handle(1, 0, outside...)
		case api.KNat:
			for choice := range 8 {
				for _, p := range inside {
					handle(0, choice, p)
					handle(1, 0, outside...)
					memory.Forget(i, p, choice)
				}
			}
		case api.KBalancer:
			handle(1, 0, outside...)
			for choice := range d.Backs {
				memory, _ = step.New(m.n)
				handle(0, choice, inside...)
				handle(1, 0, outside...)
			}
		}
	}
}

// setOf is the set of a place, by codes, as an arena of its own has it.
func setOf(t *testing.T, r *reach.Reach, at api.Place) func(code int) bool {
	t.Helper()
	a, _ := bdd.New(match.Vars, api.MaxNodes)
	f, e := r.Set(a, at)
	if e != api.OK {
		t.Fatal(at, e)
	}
	return func(code int) bool {
		in, _ := a.Eval(f, code)
		return in
	}
}

// same holds a Reach against a model: rounds, each packet, and how many, at
// each place.
func (m *model) same(t *testing.T, r *reach.Reach) {
	t.Helper()
	if r.Rounds() != m.rounds {
		t.Fatal(m.n, r.Rounds(), m.rounds)
	}
	l := all(t)
	for i := range m.n.Devices {
		for port := range 4 {
			at, count := api.Place{Device: i, Port: port}, 0
			set := setOf(t, r, at)
			for code, want := range m.round[i][port] {
				if k := r.Round(at, l[code]); k != want {
					t.Fatal(m.n, at, l[code], k, want)
				}
				if in := set(code); in != (want >= 0) {
					t.Fatal(m.n, at, l[code], in, want)
				}
				if want >= 0 {
					count++
				}
			}
			if got := r.Count(at); got != count {
				t.Fatal(m.n, at, got, count)
			}
		}
	}
}

// first is First, packet by packet.
func (m *model) first(at api.Place, x api.Match, l []api.Packet) (api.Packet, bool) {
	best, least, ok := api.Packet{}, 0, false
	for code, k := range m.round[at.Device][at.Port] {
		if k >= 0 && match.In(x, l[code]) && (!ok || k < least) {
			best, least, ok = l[code], k, true
		}
	}
	return best, ok
}

// few are the addresses of the nets that are tried, so that packets meet.
var few = []int{0, 1, 5, 9}

func anyMatch(r *rand.Rand) api.Match {
	set := func() uint16 {
		if r.Intn(3) == 0 {
			return 0xffff
		}
		return uint16(r.Uint32())
	}
	return api.Match{Src: set(), Dst: set(), Sport: uint8(set()), Dport: uint8(set())}
}

func anyDevice(r *rand.Rand, kind, rules int) api.Device {
	d := api.Device{Kind: kind}
	order := r.Perm(len(few))
	switch kind {
	case api.KHost:
		d.Addr = few[order[0]]
	case api.KNat:
		d.Addr, d.Pool = few[order[0]], uint8(1+r.Intn(255))
	case api.KBalancer:
		d.Addr = few[order[0]]
		for _, k := range order[1 : 2+r.Intn(3)] {
			d.Backs = append(d.Backs, few[k])
		}
	case api.KRouter, api.KFire:
		for range rules {
			d.Rules = append(d.Rules, api.Rule{Permit: r.Intn(2) == 0, Match: anyMatch(r)})
		}
		d.Rules = append(d.Rules, api.Rule{Permit: true, Match: match.All()})
	}
	if kind == api.KRouter {
		for bits := range 1 + r.Intn(5) {
			value := few[order[0]] >> (4 - bits) << (4 - bits)
			d.Routes = append(d.Routes, api.Route{Value: value, Bits: bits, Port: r.Intn(4)})
		}
	}
	return d
}

// anyNet is a net of so many devices, most of whose ports are linked, hosts to
// other devices as long as there are some.
func anyNet(r *rand.Rand, devices, rules int) api.Net {
	var n api.Net
	var hosts, others []api.Place
	for i := range devices {
		kind := []int{1, 2, 2, 3, 3, 4, 4, 5, 5}[r.Intn(9)]
		if i < 3 && r.Intn(3) > 0 {
			kind = api.KHost
		}
		d := anyDevice(r, kind, r.Intn(rules+1))
		d.Name = string(rune('a' + i))
		n.Devices = append(n.Devices, d)
		for port := range portsOf[d.Kind] {
			if at := (api.Place{Device: i, Port: port}); d.Kind == api.KHost {
				hosts = append(hosts, at)
			} else {
				others = append(others, at)
			}
		}
	}
	r.Shuffle(len(others), func(i, j int) { others[i], others[j] = others[j], others[i] })
	// A host and another device in turn, then the rest of either.
	var ends []api.Place
	for i := range max(len(hosts), len(others)) {
		ends = append(ends, hosts[min(i, len(hosts)):min(i+1, len(hosts))]...)
		ends = append(ends, others[min(i, len(others)):min(i+1, len(others))]...)
	}
	for i := 0; i+1 < len(ends); i += 2 {
		if a, b := ends[i], ends[i+1]; r.Intn(12) > 0 && len(n.Links) < api.MaxLinks {
			n.Links = append(n.Links, api.Link{A: a.Device, P: a.Port, B: b.Device, Q: b.Port})
		}
	}
	return n
}

// P17: nets of all kinds, against what the chapter says of each packet.
func TestIsModel(t *testing.T) {
	sent, long := map[string]int{}, 0
	l := all(t)
	for seed := range int64(300) {
		r := rand.New(rand.NewSource(seed))
		n := anyNet(r, 1+r.Intn(api.MaxDevices), 3)
		m := modelOf(t, n, byWords)
		got := fresh(t, n)
		m.same(t, got)
		for range 20 {
			at, x := api.Place{Device: r.Intn(len(n.Devices)), Port: r.Intn(2)}, anyMatch(r)
			want, some := m.first(at, x, l)
			if p, ok := got.First(at, x); p != want || ok != some {
				t.Fatal(n, at, x, p, ok, want, some)
			}
		}
		long = max(long, m.rounds)
		m.countSent(sent)
	}
	for _, s := range []string{"2 0", "2 1", "3 0", "3 1", "4 0", "4 1", "5 0", "5 1"} {
		if sent[s] < 1000 {
			t.Error("hardly tried", s, sent[s])
		}
	}
	if long < 8 {
		t.Error("no long way was tried", long)
	}
}

// countSent counts what devices sent, by their kinds and ports.
func (m *model) countSent(sent map[string]int) {
	for i, d := range m.n.Devices {
		for port := range portsOf[d.Kind] {
			to, ok := m.peer(i, port)
			if !ok {
				continue
			}
			for _, k := range m.round[to.Device][to.Port] {
				if k > 0 {
					sent[fmt.Sprint(d.Kind, " ", port&1)]++
				}
			}
		}
	}
}

// P13, P17: the same, against what package step tells with all memories that
// could be.
func TestIsMemories(t *testing.T) {
	for seed := range int64(40) {
		r := rand.New(rand.NewSource(seed))
		n := anyNet(r, 2+r.Intn(5), 1)
		// The more ports, the more owners: with few of them it is soon done.
		for i := range n.Devices {
			if d := &n.Devices[i]; d.Kind == api.KNat {
				d.Pool = 1 << r.Intn(8)
			}
		}
		modelOf(t, n, byMemories).same(t, fresh(t, n))
	}
}

// P15, P17: whatever is done in a world, nothing comes anywhere that isn't
// told, nor after fewer handlings than its round.
func TestIsWorld(t *testing.T) {
	came := 0
	for seed := range int64(150) {
		r := rand.New(rand.NewSource(seed))
		n := anyNet(r, 2+r.Intn(8), 2)
		w, e := world.New(n)
		if e != api.OK {
			t.Fatal(e)
		}
		reached := fresh(t, n)
		for range 600 {
			w.Do(anyEvent(r, n, w.Seen()))
		}
		for i, x := range w.Seen() {
			if k := reached.Round(x.Place, x.Packet); k < 0 || k > i {
				t.Fatal(n, x, k, i)
			}
			came++
		}
	}
	if came < 5000 {
		t.Error("hardly anything came", came)
	}
}

func anyEvent(r *rand.Rand, n api.Net, seen []api.Arrival) api.Event {
	addr := func() int { return few[r.Intn(len(few))] }
	device := r.Intn(len(n.Devices))
	p := api.Packet{Src: addr(), Dst: addr(), Sport: r.Intn(2), Dport: r.Intn(2)}
	x := api.Event{Kind: api.EInject, Device: device, Packet: p}
	x.Packet.Src = n.Devices[device].Addr
	if len(seen) == 0 || r.Intn(3) == 0 {
		return x
	}
	was := seen[r.Intn(len(seen))]
	switch r.Intn(6) {
	case 0: // a host answers
		x.Packet = packet.Flip(was.Packet)
	case 1:
		x = api.Event{Kind: api.EExpire, Device: was.Place.Device, Packet: was.Packet, Choice: r.Intn(8)}
	default:
		x = api.Event{Kind: api.EHop, Device: was.Place.Device, Port: was.Place.Port, Packet: was.Packet, Choice: r.Intn(8)}
	}
	return x
}
