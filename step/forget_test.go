package step_test

import (
	"slices"
	"testing"

	"wireward/api"
	"wireward/step"
)

// P1, P14: no such device, or one that knows nothing.
func TestForgetNone(t *testing.T) {
	n := chain(fire(), 0, 1)
	n.Devices = append(n.Devices, api.Device{Name: "r", Kind: api.KRouter})
	m := fresh(t, n)
	for _, device := range wild {
		want := api.ErrNone
		if device == 1 {
			want = api.ErrState
		}
		for _, port := range wild {
			for _, p := range []api.Packet{{}, {Src: port, Dst: port, Sport: port, Dport: port}} {
				if e := m.Forget(device, p, port); e != want {
					t.Error(device, p, port, e)
				}
			}
		}
	}
	if e := fresh(t, api.Net{}).Forget(0, api.Packet{}, 0); e != api.ErrNone {
		t.Error("without devices", e)
	}
}

// P14: a firewall forgets one packet, and that alone.
func TestForgetFlow(t *testing.T) {
	n := chain(fire(), 0, 1)
	m := fresh(t, n)
	tells(t, m, in, "1:2>3:4", 0, right, "1:2>3:4")
	tells(t, m, in, "1:2>3:5", 0, right, "1:2>3:5")
	for _, other := range []string{"3:4>1:2", "0:2>3:4", "1:0>3:4", "1:2>0:4", "1:2>3:0"} {
		if e := m.Forget(1, read(t, other), 0); e != api.ErrState {
			t.Error(other, e)
		}
	}
	if e := m.Forget(1, api.Packet{Src: 17, Dst: -1, Sport: 2, Dport: 4}, 0); e != api.ErrState {
		t.Error("no packet", e)
	}
	for _, port := range wild { // not looked at
		if e := m.Forget(1, read(t, "1:2>3:4"), port); e != api.OK {
			t.Error(port, e)
		}
		if e := m.Forget(1, read(t, "1:2>3:4"), port); e != api.ErrState {
			t.Error(port, "twice", e)
		}
		refuses(t, m, out, "3:4>1:2", 0, api.ErrState)
		tells(t, m, out, "3:5>1:2", 0, left, "3:5>1:2")
		tells(t, m, in, "1:2>3:4", 0, right, "1:2>3:4")
		tells(t, m, out, "3:4>1:2", 0, left, "3:4>1:2")
	}
}

// P14: a port of a pool has no owner any more, and may have another.
func TestForgetOwner(t *testing.T) {
	n := chain(nat(), 0, 1)
	m := fresh(t, n)
	for _, port := range wild {
		if e := m.Forget(1, api.Packet{}, port); e != api.ErrState {
			t.Error("no owner yet", port, e)
		}
	}
	tells(t, m, in, "1:2>3:4", 2, right, "9:2>3:4")
	tells(t, m, in, "1:3>3:4", 0, right, "9:0>3:4")
	for _, port := range wild {
		if port == 0 || port == 2 {
			continue
		}
		if e := m.Forget(1, read(t, "1:2>3:4"), port); e != api.ErrState {
			t.Error(port, e)
		}
	}
	wrong := api.Packet{Src: -1, Dst: 99} // not looked at
	if e := m.Forget(1, wrong, 2); e != api.OK {
		t.Error(e)
	}
	if e := m.Forget(1, wrong, 2); e != api.ErrState {
		t.Error("twice", e)
	}
	refuses(t, m, out, "3:4>9:2", 0, api.ErrState)
	tells(t, m, out, "3:4>9:0", 0, left, "3:4>1:3")
	refuses(t, m, in, "1:2>3:4", 3, api.ErrArg) // it is looked at again
	refuses(t, m, in, "1:2>3:4", 0, api.ErrFull)
	tells(t, m, in, "4:4>3:4", 2, right, "9:2>3:4")
	tells(t, m, out, "3:4>9:2", 0, left, "3:4>4:4")
	tells(t, m, in, "1:2>3:4", 7, right, "9:7>3:4")
}

// P14: a packet of a balancer has no back any more, and may have another.
func TestForgetBack(t *testing.T) {
	n := chain(balancer(), 0, 1)
	m := fresh(t, n)
	tells(t, m, in, "1:2>5:4", 1, right, "1:2>6:4")
	tells(t, m, in, "1:3>5:4", 1, right, "1:3>6:4")
	tells(t, m, in, "1:2>4:4", 1, right, "1:2>4:4")
	for _, other := range []string{"6:4>1:2", "1:2>6:4", "1:2>4:4", "0:2>5:4", "1:0>5:4", "1:2>5:0"} {
		if e := m.Forget(1, read(t, other), 1); e != api.ErrState {
			t.Error(other, e)
		}
	}
	if e := m.Forget(1, api.Packet{Src: 1, Dst: 5, Sport: 2, Dport: 12}, 1); e != api.ErrState {
		t.Error("no packet", e)
	}
	for _, port := range wild { // not looked at
		if e := m.Forget(1, read(t, "1:2>5:4"), port); e != api.OK {
			t.Error(port, e)
		}
		if e := m.Forget(1, read(t, "1:2>5:4"), port); e != api.ErrState {
			t.Error(port, "twice", e)
		}
		tells(t, m, out, "6:4>1:2", 0, left, "6:4>1:2")
		tells(t, m, out, "6:4>1:3", 0, left, "5:4>1:3")
		refuses(t, m, in, "1:2>5:4", 2, api.ErrArg) // it is looked at again
		tells(t, m, in, "1:2>5:4", 0, right, "1:2>7:4")
		tells(t, m, out, "6:4>1:2", 0, left, "6:4>1:2")
		tells(t, m, out, "7:4>1:2", 0, left, "5:4>1:2")
	}
}

// pairs is a net with two devices of each kind that knows something, each in a
// chain of its own.
func pairs() api.Net {
	var n api.Net
	for i, d := range []api.Device{fire(), fire(), nat(), nat(), balancer(), balancer()} {
		d.Name = string(rune('a' + i))
		n.Devices = append(n.Devices, d)
	}
	for i := 0; i < 6; i += 2 {
		n.Links = append(n.Links, api.Link{A: i, P: 0, B: i + 1, Q: 0}, api.Link{A: i, P: 1, B: i + 1, Q: 1})
	}
	return n
}

// P12, P14: what one device knows no other one does.
func TestDevicesKnowTheirOwn(t *testing.T) {
	n := pairs()
	for i := range n.Devices {
		m := fresh(t, n)
		p := read(t, "1:2>5:4")
		if _, e := m.Handle(api.Place{Device: i}, p, 0); e != api.OK {
			t.Fatal(i, e)
		}
		want := fact{device: i, packet: p}
		if n.Devices[i].Kind == api.KNat {
			want = fact{device: i}
		}
		if l := knows(m, n); !slices.Equal(l, []fact{want}) {
			t.Error(i, l)
		}
		for j := range n.Devices {
			e := m.Copy().Forget(j, p, 0)
			if (e == api.OK) != (i == j) || i != j && e != api.ErrState {
				t.Error(i, j, e)
			}
		}
	}
}

// asked is a memory of pairs in which every first device of a kind knows p.
func asked(t *testing.T, p api.Packet) *step.Memory {
	t.Helper()
	m := fresh(t, pairs())
	for i := 0; i < 6; i += 2 {
		if _, e := m.Handle(api.Place{Device: i}, p, 0); e != api.OK {
			t.Fatal(i, e)
		}
	}
	return m
}

// P12: a copy has the same in it, and goes its own way from then on; so does
// what it was made of.
func TestCopy(t *testing.T) {
	n := pairs()
	p, q := read(t, "1:2>5:4"), read(t, "1:3>5:4")
	m := asked(t, p)
	was := knows(m, n)
	if len(was) != 3 {
		t.Fatal(was)
	}
	c := m.Copy()
	if c == m || !slices.Equal(knows(c, n), was) {
		t.Fatal("copy", knows(c, n))
	}
	for _, two := range [][2]*step.Memory{{c, m}, {m.Copy(), c.Copy()}, {m, m.Copy()}} {
		changed, stays := two[0], two[1]
		before := knows(stays, n)
		for i := range n.Devices {
			if i%2 == 0 && changed.Forget(i, p, 0) != api.OK {
				t.Error("forget", i)
			}
			if x, e := changed.Handle(api.Place{Device: i}, q, 0); e != api.OK {
				t.Error(i, x, e)
			}
		}
		if l := knows(changed, n); len(l) != 6 || slices.Equal(l, before) {
			t.Error("changed", l)
		}
		if l := knows(stays, n); !slices.Equal(l, before) {
			t.Error("stays", l, before)
		}
	}
}

// P12: a copy has the same owners and backs, not just as many.
func TestCopyHasTheSame(t *testing.T) {
	m := fresh(t, chain(nat(), 0, 1))
	tells(t, m, in, "1:2>3:4", 7, right, "9:7>3:4")
	c := m.Copy().Copy()
	tells(t, c, out, "3:4>9:7", 0, left, "3:4>1:2")
	tells(t, c, in, "1:2>3:4", 1, right, "9:7>3:4")
	m = fresh(t, chain(balancer(), 0, 1))
	tells(t, m, in, "1:2>5:4", 1, right, "1:2>6:4")
	c = m.Copy().Copy()
	tells(t, c, in, "1:2>5:4", 0, right, "1:2>6:4")
	tells(t, c, out, "6:4>1:2", 0, left, "5:4>1:2")
}

// P2: a net that is handed in stays as it is, and a memory has its own.
func TestNetIsNotKept(t *testing.T) {
	n := pairs()
	n.Devices = append(n.Devices, api.Device{Name: "r", Kind: api.KRouter, Rules: fire().Rules, Routes: []api.Route{{Port: 2}}}, api.Device{Name: "h", Kind: api.KHost})
	n.Links = append(n.Links, api.Link{A: 6, P: 2, B: 7})
	type answer struct {
		x api.Arrival
		e api.Errno
	}
	answers := func(m *step.Memory) (l []answer) {
		for i := range 8 {
			for port := range 4 {
				x, e := m.Handle(api.Place{Device: i, Port: port}, api.Packet{Src: 1, Dst: 5}, 0)
				l = append(l, answer{x, e})
			}
		}
		return l
	}
	want := answers(fresh(t, n))
	m := fresh(t, n)
	c := m.Copy()
	for i := range n.Devices {
		d := &n.Devices[i]
		for j := range d.Rules {
			d.Rules[j] = api.Rule{}
		}
		for j := range d.Routes {
			d.Routes[j].Port = 3
		}
		for j := range d.Backs {
			d.Backs[j] = 11 + j
		}
		*d = api.Device{Name: "x", Kind: api.KHost}
	}
	for i := range n.Links {
		n.Links[i] = api.Link{A: 9}
	}
	if got := answers(m); !slices.Equal(got, want) {
		t.Error(got, want)
	}
	if got := answers(c); !slices.Equal(got, want) {
		t.Error("copy", got, want)
	}
}
