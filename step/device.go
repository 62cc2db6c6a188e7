package step

import (
	"wireward/acl"
	"wireward/api"
	"wireward/fib"
	"wireward/packet"
)

// The two ports of a KFire, a KNat and a KBalancer.
const (
	inside  = 0
	outside = 1
)

// leaving is a packet on its way out of a device. What is to be known then is
// told as a function, since it isn't to be known where the port leads nowhere.
type leaving struct {
	port   int
	packet api.Packet
	learn  func()
}

// pass is a packet that leaves nothing behind it that is known.
func pass(port int, p api.Packet) (leaving, api.Errno) {
	return leaving{port, p, func() {}}, api.OK
}

// stay is a packet that doesn't go out.
func stay() (leaving, api.Errno) { return leaving{}, api.ErrState }

// send is what the device at a place that the net has does with a packet.
func (m *Memory) send(at api.Place, p api.Packet, choice int) (leaving, api.Errno) {
	fromInside := at.Port == inside
	switch kind := m.net.Devices[at.Device].Kind; {
	case kind == api.KRouter:
		return m.route(at.Device, p)
	case kind == api.KFire && fromInside:
		return m.ask(at.Device, p)
	case kind == api.KFire:
		return m.answer(at.Device, p)
	case kind == api.KNat && fromInside:
		return m.hide(at.Device, p, choice)
	case kind == api.KNat:
		return m.unhide(at.Device, p)
	case kind == api.KBalancer && fromInside:
		return m.spread(at.Device, p, choice)
	case kind == api.KBalancer:
		return m.gather(at.Device, p)
	}
	return stay()
}

// route is what a KRouter does, at whichever port the packet came in.
func (m *Memory) route(device int, p api.Packet) (leaving, api.Errno) {
	d := m.net.Devices[device]
	port, ok := fib.Out(d.Routes, p.Dst)
	if !ok || !acl.Lets(d.Rules, p) {
		return stay()
	}
	return pass(port, p)
}

// ask is what a KFire does with a packet from inside: it may be answered then.
func (m *Memory) ask(device int, p api.Packet) (leaving, api.Errno) {
	if !acl.Lets(m.net.Devices[device].Rules, p) {
		return stay()
	}
	flow := packetOf{device, p}
	return leaving{outside, p, func() { m.flows[flow] = struct{}{} }}, api.OK
}

// answer is what a KFire does with a packet from outside.
func (m *Memory) answer(device int, p api.Packet) (leaving, api.Errno) {
	if _, ok := m.flows[packetOf{device, packet.Flip(p)}]; !ok {
		return stay()
	}
	return pass(inside, p)
}

// hide is what a KNat does with a packet from inside: who sent it isn't seen
// any more, but by a port that is the sender's own.
func (m *Memory) hide(device int, p api.Packet, choice int) (leaving, api.Errno) {
	d := m.net.Devices[device]
	sender := end{p.Src, p.Sport}
	port, ok := m.ownPort(device, sender)
	if !ok {
		if !inPool(d, choice) {
			return leaving{}, api.ErrArg
		}
		if _, taken := m.owners[portOf{device, choice}]; taken {
			return leaving{}, api.ErrFull
		}
		port = choice
	}
	p.Src, p.Sport = d.Addr, port
	// To learn once more what is known already changes nothing.
	return leaving{outside, p, func() { m.owners[portOf{device, port}] = sender }}, api.OK
}

// unhide is what a KNat does with a packet from outside.
func (m *Memory) unhide(device int, p api.Packet) (leaving, api.Errno) {
	// Only a port of the pool ever has an owner.
	owner, ok := m.owners[portOf{device, p.Dport}]
	if !ok || p.Dst != m.net.Devices[device].Addr {
		return stay()
	}
	p.Dst, p.Dport = owner.addr, owner.port
	return pass(inside, p)
}

// ownPort is the port of a KNat that a sender has; there is at most one, since
// who has one isn't given another.
func (m *Memory) ownPort(device int, sender end) (int, bool) {
	for port := range api.PortsOf {
		if owner, ok := m.owners[portOf{device, port}]; ok && owner == sender {
			return port, true
		}
	}
	return 0, false
}

func inPool(d api.Device, port int) bool {
	return port >= 0 && port < api.PortsOf && d.Pool>>port&1 == 1
}

// spread is what a KBalancer does with a packet from inside: one for itself
// goes to one of its backs, and from then on always to that one.
func (m *Memory) spread(device int, p api.Packet, choice int) (leaving, api.Errno) {
	d := m.net.Devices[device]
	if p.Dst != d.Addr {
		return pass(outside, p)
	}
	asked := packetOf{device, p}
	back, ok := m.backs[asked]
	if !ok {
		if choice < 0 || choice >= len(d.Backs) {
			return leaving{}, api.ErrArg
		}
		back = d.Backs[choice]
	}
	p.Dst = back
	// To learn once more what is known already changes nothing.
	return leaving{outside, p, func() { m.backs[asked] = back }}, api.OK
}

// gather is what a KBalancer does with a packet from outside: the answer of a
// back to what it was asked comes from the balancer itself.
func (m *Memory) gather(device int, p api.Packet) (leaving, api.Errno) {
	addr := m.net.Devices[device].Addr
	asked := api.Packet{Src: p.Dst, Sport: p.Dport, Dst: addr, Dport: p.Sport}
	if back, ok := m.backs[packetOf{device, asked}]; ok && back == p.Src {
		p.Src = addr
	}
	return pass(inside, p)
}
