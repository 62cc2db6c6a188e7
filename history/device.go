package history

import (
	"slices"

	"wireward/api"
	"wireward/match"
	"wireward/net"
	"wireward/packet"
)

// The two ports of a KFire, a KNat and a KBalancer.
const (
	inside  = 0
	outside = 1
)

// causes are those of a packet that the device at a place sends there. That it
// does is known, so rules and routes aren't looked at: they let it.
func (f finder) causes(from api.Place, p api.Packet) []cause {
	i, toOutside := from.Device, from.Port == outside
	switch kind := f.net.Devices[i].Kind; {
	case kind == api.KHost:
		return []cause{{{Kind: api.EInject, Device: i, Packet: p}}}
	case kind == api.KRouter:
		return routed(i, p)
	case kind == api.KFire && toOutside:
		return []cause{{hop(i, inside, p, 0)}}
	case kind == api.KFire:
		return []cause{{hop(i, inside, packet.Flip(p), 0), hop(i, outside, p, 0)}}
	case kind == api.KNat && toOutside:
		return f.hidden(i, p)
	case kind == api.KNat:
		return f.unhidden(i, p)
	case kind == api.KBalancer && toOutside:
		return f.spread(i, p)
	case kind == api.KBalancer:
		return f.gathered(i, p)
	}
	return nil
}

// routed is by a KRouter, at whichever port it came in.
func routed(device int, p api.Packet) []cause {
	var l []cause
	for port := range net.Ports(api.KRouter) {
		l = append(l, cause{hop(device, port, p, 0)})
	}
	return l
}

// hidden is by a KNat, whoever sent it.
func (f finder) hidden(device int, p api.Packet) []cause {
	toSame := match.All()
	toSame.Dst, toSame.Dport = 1<<p.Dst, 1<<p.Dport
	sent, ok := f.first(device, inside, toSame)
	if !ok {
		return nil
	}
	return []cause{append(f.forgetOwners(device), hop(device, inside, sent, p.Sport))}
}

// unhidden is by a KNat to one who sent something, whatever that was, and then
// owns the port to which it came, whichever that was.
func (f finder) unhidden(device int, p api.Packet) []cause {
	d := f.net.Devices[device]
	ofOwner := match.All()
	ofOwner.Src, ofOwner.Sport = 1<<p.Dst, 1<<p.Dport
	sent, okSent := f.first(device, inside, ofOwner)
	toPool := api.Match{Src: 1 << p.Src, Sport: 1 << p.Sport, Dst: 1 << d.Addr, Dport: d.Pool}
	came, okCame := f.first(device, outside, toPool)
	if !okSent || !okCame {
		return nil
	}
	return []cause{append(f.forgetOwners(device), hop(device, inside, sent, came.Dport), hop(device, outside, came, 0))}
}

// forgetOwners is for all ports of a KNat: the one that is to have an owner may
// have another one, and that owner may have another port.
func (f finder) forgetOwners(device int) cause {
	var c cause
	for port := range api.PortsOf {
		if f.net.Devices[device].Pool>>port&1 == 1 {
			c = append(c, api.Event{Kind: api.EExpire, Device: device, Choice: port})
		}
	}
	return c
}

// spread is by a KBalancer, as it came, or to a back.
func (f finder) spread(device int, p api.Packet) []cause {
	d := f.net.Devices[device]
	l := []cause{{hop(device, inside, p, 0)}}
	if choice := slices.Index(d.Backs, p.Dst); choice >= 0 {
		asked := p
		asked.Dst = d.Addr
		l = append(l, cause{forgetBack(device, asked), hop(device, inside, asked, choice)})
	}
	return l
}

// gathered is by a KBalancer, as it came, or from a back as its own.
func (f finder) gathered(device int, p api.Packet) []cause {
	d := f.net.Devices[device]
	asked := api.Packet{Src: p.Dst, Sport: p.Dport, Dst: d.Addr, Dport: p.Sport}
	forget := forgetBack(device, asked)
	l := []cause{{forget, hop(device, outside, p, 0)}}
	if p.Src != d.Addr {
		return l
	}
	for choice, back := range d.Backs {
		answer := p
		answer.Src = back
		l = append(l, cause{forget, hop(device, inside, asked, choice), hop(device, outside, answer, 0)})
	}
	return l
}

// forgetBack is for a packet that a KBalancer may have sent to another back.
func forgetBack(device int, p api.Packet) api.Event {
	return api.Event{Kind: api.EExpire, Device: device, Packet: p}
}

func hop(device, port int, p api.Packet, choice int) api.Event {
	return api.Event{Kind: api.EHop, Device: device, Port: port, Packet: p, Choice: choice}
}

// first is the packet that came in first of those at a port that a match has.
func (f finder) first(device, port int, m api.Match) (api.Packet, bool) {
	return f.reach.First(api.Place{Device: device, Port: port}, m)
}
