package history

import (
	"wireward/api"
	"wireward/net"
	"wireward/reach"
)

// cause is how an arrival is brought about, whatever the device that sends it
// knew: events that let it forget what may stand in the way, if it is known,
// then those that let it know what it must, and then the one by which it sends.
type cause []api.Event

// needs is what came in ahead of a cause: the packets that it handles.
func (c cause) needs() []api.Arrival {
	var l []api.Arrival
	for _, x := range c {
		if x.Kind == api.EHop {
			l = append(l, api.Arrival{Place: api.Place{Device: x.Device, Port: x.Port}, Packet: x.Packet})
		}
	}
	return l
}

// finder finds causes in what can come anywhere.
type finder struct {
	net   api.Net
	reach *reach.Reach
}

// cause is the one of x whose needs came in first. All of them came in rounds
// ahead of x, so who goes on from cause to cause comes to an end.
func (f finder) cause(x api.Arrival) (cause, bool) {
	from, linked := net.Peer(f.net, x.Place)
	if !linked {
		return nil, false
	}
	var first cause
	least := f.reach.Round(x.Place, x.Packet)
	for _, c := range f.causes(from, x.Packet) {
		if k, ok := f.latest(c); ok && k < least {
			first, least = c, k
		}
	}
	return first, first != nil
}

// latest is the round by which all that a cause needs came in, -1 if it needs
// nothing; false, if something never does.
func (f finder) latest(c cause) (int, bool) {
	last := -1
	for _, x := range c.needs() {
		k := f.reach.Round(x.Place, x.Packet)
		if k < 0 {
			return 0, false
		}
		last = max(last, k)
	}
	return last, true
}
