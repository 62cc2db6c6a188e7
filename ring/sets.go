package ring

import (
	"wireward/acl"
	"wireward/api"
	"wireward/bdd"
	"wireward/fib"
	"wireward/match"
	"wireward/net"
)

// sets has for each device some of the packets that come in there, at whichever
// port, as functions of an arena of its own. That always has room: a function
// of 14 variables has at most 2301 nodes, and there are at most 10 devices.
type sets struct {
	arena *bdd.Arena
	at    [api.MaxDevices]int
}

// forever is the packets that go round for ever. It leaves out hop by hop what
// comes to rest; what goes out as often as there are devices was at one of them
// twice, and goes on so for ever.
func forever(n api.Net) (sets, api.Errno) {
	s, e := everything()
	for range n.Devices {
		if e != api.OK {
			return sets{}, e
		}
		s, e = s.hop(n)
	}
	return s, e
}

// everything is all packets at each device.
func everything() (sets, api.Errno) {
	a, e := newArena()
	if e != api.OK {
		return sets{}, e
	}
	s := sets{arena: a}
	for i := range s.at {
		s.at[i] = bdd.Always
	}
	return s, api.OK
}

// hop is the packets that go out, and come in where s has them.
func (s sets) hop(n api.Net) (sets, api.Errno) {
	a, e := newArena()
	if e != api.OK {
		return sets{}, e
	}
	ahead := sets{arena: a}
	for i := range n.Devices {
		ahead.at[i], e = s.sent(a, n, i)
		if e != api.OK {
			return sets{}, e
		}
	}
	return ahead, api.OK
}

// sent is the packets that a device sends to where s has them, as a function of
// a. What is needed on the way is made aside, where there is always room: two
// functions for each of four ports, two more, and those of the routes, which
// hang on Dst alone.
func (s sets) sent(a *bdd.Arena, n api.Net, device int) (int, api.Errno) {
	aside, e := newArena()
	if e != api.OK {
		return 0, e
	}
	f, e := s.routed(aside, n, device)
	if e != api.OK {
		return 0, e
	}
	lets, e := acl.Build(aside, n.Devices[device].Rules)
	if e != api.OK {
		return 0, e
	}
	f, e = aside.And(f, lets)
	if e != api.OK {
		return 0, e
	}
	return a.Take(aside, f)
}

// routed is the packets that a device would send to where s has them, if its
// rules let all through. A host has no routes, and sends nothing.
func (s sets) routed(a *bdd.Arena, n api.Net, device int) (int, api.Errno) {
	d := n.Devices[device]
	f := bdd.Never
	for port := range net.Ports(d.Kind) {
		to, ok := net.Peer(n, api.Place{Device: device, Port: port})
		if !ok {
			continue
		}
		there, e := a.Take(s.arena, s.at[to.Device])
		if e != api.OK {
			return 0, e
		}
		out, e := fib.Build(a, d.Routes, port)
		if e != api.OK {
			return 0, e
		}
		f, e = a.Ite(out, there, f)
		if e != api.OK {
			return 0, e
		}
	}
	return f, api.OK
}

// count is how many packets s has at a device; a is to have room for them.
func (s sets) count(a *bdd.Arena, device int) (int, api.Errno) {
	f, e := a.Take(s.arena, s.at[device])
	if e != api.OK {
		return 0, e
	}
	return a.Count(f)
}

// newArena is one with as much room as there may be.
func newArena() (*bdd.Arena, api.Errno) { return bdd.New(match.Vars, api.MaxNodes) }
