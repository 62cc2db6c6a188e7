package reach

import (
	"wireward/api"
	"wireward/bdd"
	"wireward/match"
)

// The two ports of a KFire, a KNat and a KBalancer.
const (
	inside  = 0
	outside = 1
)

// send is what a device may send at a port, once it has handled what came in.
// What a device knows of packets from inside it knows only if its port outside
// has a Peer; that isn't asked for, since without one nothing came in there.
func (b *bench) send(d api.Device, port int, in ports) int {
	toOutside := port == outside
	switch {
	case d.Kind == api.KRouter:
		return b.route(d, port, in)
	case d.Kind == api.KFire && toOutside:
		return b.ask(d, in)
	case d.Kind == api.KFire:
		return b.answer(d, in)
	case d.Kind == api.KNat && toOutside:
		return b.hide(d, in)
	case d.Kind == api.KNat:
		return b.unhide(d, in)
	case d.Kind == api.KBalancer && toOutside:
		return b.spread(d, in)
	case d.Kind == api.KBalancer:
		return b.gather(d, in)
	}
	return bdd.Never
}

// route is what a KRouter sends at a port, wherever it came in.
func (b *bench) route(d api.Device, port int, in ports) int {
	all := bdd.Never
	for _, f := range in {
		all = b.or(all, f)
	}
	return b.and(b.and(all, b.routes(d.Routes, port)), b.rules(d.Rules))
}

// ask is what a KFire lets out; this may be answered.
func (b *bench) ask(d api.Device, in ports) int { return b.and(in[inside], b.rules(d.Rules)) }

// answer is what a KFire lets in.
func (b *bench) answer(d api.Device, in ports) int {
	return b.and(in[outside], b.flip(b.ask(d, in)))
}

// hide is what a KNat sends for those inside: each may have had each port.
func (b *bench) hide(d api.Device, in ports) int {
	seen := srcIn(d.Addr)
	seen.Sport = d.Pool
	return b.and(b.anySrc(b.anySport(in[inside])), b.match(seen))
}

// unhide is what a KNat sends to those inside, of whom each may have the port
// to which a packet came.
func (b *bench) unhide(d api.Device, in ports) int {
	own := dstIn(d.Addr)
	own.Dport = d.Pool
	came := b.and(in[outside], b.match(own))
	owners := b.flip(b.anyDst(b.anyDport(in[inside])))
	return b.and(b.anyDst(b.anyDport(came)), owners)
}

// spread is what a KBalancer sends outside: what is for itself to each back.
func (b *bench) spread(d api.Device, in ports) int {
	others := match.All()
	others.Dst &^= dstIn(d.Addr).Dst
	toBacks := b.and(b.anyDst(b.own(d, in)), b.match(dstIn(d.Backs...)))
	return b.or(b.and(in[inside], b.match(others)), toBacks)
}

// gather is what a KBalancer sends inside: all as it is, and the answers of
// backs as its own, too.
func (b *bench) gather(d api.Device, in ports) int {
	// Which back was asked isn't looked at: it may have been each of them.
	answers := b.and(b.match(srcIn(d.Backs...)), b.flip(b.anyDst(b.own(d, in))))
	asOwn := b.and(b.anySrc(b.and(in[outside], answers)), b.match(srcIn(d.Addr)))
	return b.or(in[outside], asOwn)
}

// own is what came to a KBalancer for itself.
func (b *bench) own(d api.Device, in ports) int {
	return b.and(in[inside], b.match(dstIn(d.Addr)))
}

// srcIn is the match of all packets from some addresses.
func srcIn(addrs ...int) api.Match {
	m := match.All()
	m.Src = setOf(addrs)
	return m
}

// dstIn is the match of all packets to some addresses.
func dstIn(addrs ...int) api.Match {
	m := match.All()
	m.Dst = setOf(addrs)
	return m
}

func setOf(addrs []int) uint16 {
	var set uint16
	for _, a := range addrs {
		set |= 1 << a
	}
	return set
}
