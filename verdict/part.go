package verdict

import (
	"slices"

	"wireward/api"
	"wireward/net"
)

// part is a net of some devices of a whole one, to which no other is linked.
type part struct {
	net   api.Net
	whole []int     // by device its number in the whole net; they rise
	home  api.Place // where packets come in at the host that is asked for
}

// partOf is the part in which a host is.
func partOf(n api.Net, host string) (part, api.Errno) {
	if e := net.Check(n); e != api.OK {
		return part{}, e
	}
	start := slices.IndexFunc(n.Devices, func(d api.Device) bool { return d.Kind == api.KHost && d.Name == host })
	if start < 0 {
		return part{}, api.ErrNone
	}
	whole := around(n, start)
	home := api.Place{Device: slices.Index(whole, start)}
	return part{net: only(n, whole), whole: whole, home: home}, api.OK
}

// around is the devices that can be come to from one along links, that one
// included, rising.
func around(n api.Net, start int) []int {
	found := []int{start}
	// What is found is looked at in turn, so the list grows on the way.
	for i := 0; i < len(found); i++ {
		device := found[i]
		for port := range net.Ports(n.Devices[device].Kind) {
			peer, ok := net.Peer(n, api.Place{Device: device, Port: port})
			if ok && !slices.Contains(found, peer.Device) {
				found = append(found, peer.Device)
			}
		}
	}
	slices.Sort(found)
	return found
}

// only is the net of some devices, rising, to which no other one is linked.
func only(n api.Net, devices []int) api.Net {
	var some api.Net
	for _, i := range devices {
		some.Devices = append(some.Devices, n.Devices[i])
	}
	for _, l := range n.Links {
		a, in := slices.BinarySearch(devices, l.A)
		// Where one end of a link is, the other one is, too.
		if b, _ := slices.BinarySearch(devices, l.B); in {
			some.Links = append(some.Links, api.Link{A: a, P: l.P, B: b, Q: l.Q})
		}
	}
	return net.Copy(some)
}

// inWhole is events of the part as those of the whole net.
func (s part) inWhole(l []api.Event) []api.Event {
	var events []api.Event
	for _, x := range l {
		x.Device = s.whole[x.Device]
		events = append(events, x)
	}
	return events
}
