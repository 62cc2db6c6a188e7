package net_test

import (
	"math"
	"math/rand"
	"reflect"
	"regexp"
	"slices"
	"strings"
	"sync"
	"testing"

	"wireward/acl"
	"wireward/api"
	"wireward/fib"
	"wireward/match"
	"wireward/net"
)

// wild are numbers in, at and beyond the bounds of every part.
var wild = []int{
	math.MinInt, math.MinInt + 1, -1 << 32, -16, -5, -1, 0, 1, 2, 3, 4, 5, 6, 7, 8, 9, 10, 14, 15, 16, 17,
	99, 100, 255, 256, 1 << 16, 1 << 32, 1<<32 + 1, math.MaxInt - 1, math.MaxInt,
}

// one is a net with a device of each kind.
func one() api.Net {
	return api.Net{
		Devices: []api.Device{
			{Name: "a", Kind: api.KHost, Addr: 1},
			{
				Name: "r", Kind: api.KRouter,
				Rules:  []api.Rule{{Match: api.Match{Src: 2, Dst: 0xffff, Sport: 0xff, Dport: 0xff}}, {Permit: true, Match: match.All()}},
				Routes: []api.Route{{Value: 8, Bits: 1}, {Port: 1}, {Value: 13, Bits: 4, Port: 3}},
			},
			{Name: "f", Kind: api.KFire, Rules: []api.Rule{{Permit: true, Match: api.Match{Src: 14, Dst: 1, Sport: 0xff}}}},
			{Name: "n", Kind: api.KNat, Addr: 9, Pool: 0x89},
			{Name: "l", Kind: api.KBalancer, Addr: 5, Backs: []int{7, 0, 15}},
		},
		Links: []api.Link{{A: 0, P: 0, B: 1, Q: 0}, {A: 1, P: 1, B: 2, Q: 0}, {A: 3, P: 1, B: 1, Q: 3}, {A: 4, P: 0, B: 4, Q: 1}},
	}
}

// same takes a list that is nil and one that is empty for the same.
func same(n, m api.Net) bool {
	return slices.Equal(n.Links, m.Links) && slices.EqualFunc(n.Devices, m.Devices, func(d, f api.Device) bool {
		return d.Name == f.Name && d.Kind == f.Kind && d.Addr == f.Addr && d.Pool == f.Pool &&
			slices.Equal(d.Backs, f.Backs) && slices.Equal(d.Rules, f.Rules) && slices.Equal(d.Routes, f.Routes)
	})
}

var nameForm = regexp.MustCompile(`\A[a-z0-9]{1,8}\z`)

// ports is Ports, written apart from the program.
func ports(kind int) int {
	return map[int]int{1: 1, 2: 4, 3: 2, 4: 2, 5: 2}[kind]
}

// fault is an error that a net has, if is.
type fault struct {
	is bool
	e  api.Errno
}

// deviceFaults are what may be wrong with a device, in the order in which it is
// told, written apart from the program.
func deviceFaults(d api.Device, names map[string]int) []fault {
	addr := d.Kind == 1 || d.Kind == 4 || d.Kind == 5
	twice, backs := false, map[int]int{}
	for _, b := range d.Backs {
		backs[b]++
		twice = twice || backs[b] > 1
	}
	return []fault{
		{!nameForm.MatchString(d.Name), api.ErrSyntax},
		{names[d.Name] > 0, api.ErrName},
		{d.Kind < 1 || d.Kind > 5, api.ErrArg},
		{addr && (d.Addr < 0 || d.Addr > 15), api.ErrArg},
		{!addr && d.Addr != 0, api.ErrArg},
		{d.Kind == 4 && d.Pool == 0, api.ErrArg},
		{d.Kind != 4 && d.Pool != 0, api.ErrArg},
		{len(d.Backs) > 3, api.ErrLarge},
		{d.Kind == 5 && len(d.Backs) == 0, api.ErrArg},
		{d.Kind != 5 && len(d.Backs) != 0, api.ErrArg},
		{slices.ContainsFunc(d.Backs, func(b int) bool { return b < 0 || b > 15 }), api.ErrArg},
		{backs[d.Addr] > 0, api.ErrArg},
		{twice, api.ErrArg},
		{d.Kind != 2 && d.Kind != 3 && len(d.Rules) != 0, api.ErrArg},
		{d.Kind != 2 && len(d.Routes) != 0, api.ErrArg},
		{acl.Check(d.Rules) != api.OK, acl.Check(d.Rules)},
		{fib.Check(d.Routes) != api.OK, fib.Check(d.Routes)},
	}
}

// check is Check, written apart from the program.
func check(n api.Net) api.Errno {
	faults := []fault{{len(n.Devices) > 10, api.ErrLarge}, {len(n.Links) > 15, api.ErrLarge}}
	names := map[string]int{}
	for _, d := range n.Devices {
		faults = append(faults, deviceFaults(d, names)...)
		names[d.Name]++
	}
	ends := map[[2]int]int{}
	for _, l := range n.Links {
		for _, end := range [][2]int{{l.A, l.P}, {l.B, l.Q}} {
			good := end[0] >= 0 && end[0] < len(n.Devices) && end[1] >= 0 && end[1] < ports(n.Devices[end[0]].Kind)
			faults = append(faults, fault{!good, api.ErrArg})
		}
		ends[[2]int{l.A, l.P}]++
		ends[[2]int{l.B, l.Q}]++
		faults = append(faults, fault{ends[[2]int{l.A, l.P}] > 1 || ends[[2]int{l.B, l.Q}] > 1, api.ErrName})
	}
	for _, f := range faults {
		if f.is {
			return f.e
		}
	}
	return api.OK
}

// anyRules are rules of any matches.
func anyRules(r *rand.Rand, n int) []api.Rule {
	var l []api.Rule
	for range n {
		m := match.All()
		if r.Intn(2) == 0 {
			m = api.Match{Src: uint16(r.Uint32()), Dst: uint16(r.Uint32()), Sport: uint8(r.Uint32()), Dport: uint8(r.Uint32())}
		}
		l = append(l, api.Rule{Permit: r.Intn(2) == 0, Match: m})
	}
	return l
}

// anyRoutes are routes that fib.Check takes.
func anyRoutes(r *rand.Rand, n int) []api.Route {
	var all []api.Route
	for bits := range 5 {
		for value := 0; value < 16; value += 16 >> bits {
			all = append(all, api.Route{Value: value, Bits: bits, Port: r.Intn(4)})
		}
	}
	r.Shuffle(len(all), func(i, j int) { all[i], all[j] = all[j], all[i] })
	return all[:n]
}

// anyDevice is a device of a name that Check takes.
func anyDevice(r *rand.Rand, name string) api.Device {
	d := api.Device{Name: name, Kind: 1 + r.Intn(5)}
	switch d.Kind {
	case api.KHost:
		d.Addr = r.Intn(16)
	case api.KRouter:
		d.Rules, d.Routes = anyRules(r, r.Intn(9)), anyRoutes(r, r.Intn(9))
	case api.KFire:
		d.Rules = anyRules(r, r.Intn(9))
	case api.KNat:
		d.Addr, d.Pool = r.Intn(16), uint8(1+r.Intn(255))
	case api.KBalancer:
		addrs := r.Perm(16)
		d.Addr, d.Backs = addrs[0], addrs[1:2+r.Intn(3)]
	}
	return d
}

// anyNet is a net that Check takes.
func anyNet(r *rand.Rand, devices int) api.Net {
	const signs = "abcdefghijklmnopqrstuvwxyz0123456789"
	var n api.Net
	var places []api.Place
	for i := range devices {
		name := signs[i : i+1] // so that no two are the same
		for range r.Intn(8) {
			name += string(signs[r.Intn(len(signs))])
		}
		d := anyDevice(r, name)
		n.Devices = append(n.Devices, d)
		for port := range ports(d.Kind) {
			places = append(places, api.Place{Device: i, Port: port})
		}
	}
	r.Shuffle(len(places), func(i, j int) { places[i], places[j] = places[j], places[i] })
	most := min(len(places)/2, 15)
	for i := range r.Intn(most + 1) {
		a, b := places[2*i], places[2*i+1]
		n.Links = append(n.Links, api.Link{A: a.Device, P: a.Port, B: b.Device, Q: b.Port})
	}
	return n
}

// spoil makes something in a net another thing, mostly a wrong one.
func spoil(r *rand.Rand, n *api.Net) {
	number := func() int { return wild[r.Intn(len(wild))] }
	if len(n.Links) > 0 && r.Intn(3) == 0 {
		l := &n.Links[r.Intn(len(n.Links))]
		*[]*int{&l.A, &l.P, &l.B, &l.Q}[r.Intn(4)] = number()
		return
	}
	if len(n.Devices) == 0 || r.Intn(12) == 0 {
		n.Links = append(n.Links, api.Link{A: r.Intn(3), P: r.Intn(3), B: r.Intn(3), Q: r.Intn(3)})
		return
	}
	d := &n.Devices[r.Intn(len(n.Devices))]
	switch r.Intn(9) {
	case 0:
		names := []string{"", "abcdefgh", "abcdefghi", "A", "a b", "ä", "a\n", n.Devices[0].Name}
		d.Name = names[r.Intn(len(names))]
	case 1:
		d.Kind = number()
	case 2:
		d.Kind = r.Intn(7)
	case 3:
		d.Addr = number()
	case 4:
		d.Pool ^= uint8(1 << r.Intn(8))
	case 5:
		d.Backs = append(d.Backs, number())
	case 6:
		d.Rules = anyRules(r, r.Intn(11))
	case 7:
		d.Routes = anyRoutes(r, r.Intn(11))
	case 8:
		d.Routes = append(d.Routes, api.Route{Value: r.Intn(17), Bits: r.Intn(6), Port: r.Intn(5)})
	}
}

// P10: how many ports a kind has.
func TestPorts(t *testing.T) {
	for _, c := range [][2]int{{api.KHost, 1}, {api.KRouter, 4}, {api.KFire, 2}, {api.KNat, 2}, {api.KBalancer, 2}} {
		if n := net.Ports(c[0]); n != c[1] {
			t.Error(c, n)
		}
	}
	for _, kind := range wild {
		if n := net.Ports(kind); n != ports(kind) {
			t.Error(kind, n)
		}
	}
}

// P10: a net of each kind, and the least ones.
func TestCheckGood(t *testing.T) {
	for i, n := range []api.Net{
		one(), {}, {Devices: []api.Device{}, Links: []api.Link{}},
		{Devices: []api.Device{{Name: "12345678", Kind: api.KRouter, Backs: []int{}, Rules: []api.Rule{}, Routes: []api.Route{}}}},
	} {
		if e := net.Check(n); e != api.OK {
			t.Error(i, e)
		}
	}
	r := rand.New(rand.NewSource(1))
	for i := range 2000 {
		if n := anyNet(r, i%11); net.Check(n) != api.OK {
			t.Fatal(n, net.Check(n))
		}
	}
}

// P10: at most ten devices and fifteen links, told ahead of what they are.
func TestCheckLarge(t *testing.T) {
	routers := func(devices, links int) api.Net {
		var n api.Net
		for i := range devices {
			n.Devices = append(n.Devices, api.Device{Name: string(rune('a' + i)), Kind: api.KRouter})
		}
		for i := range links { // ports 0 and 1, and 2 and 3, of one device
			n.Links = append(n.Links, api.Link{A: i / 2, P: i % 2 * 2, B: i / 2, Q: i%2*2 + 1})
		}
		return n
	}
	for _, c := range []struct {
		n    api.Net
		want api.Errno
	}{
		{routers(10, 15), api.OK},
		{routers(11, 0), api.ErrLarge},
		{routers(11, 15), api.ErrLarge},
		{routers(10, 16), api.ErrLarge},
		{api.Net{Devices: make([]api.Device, 10)}, api.ErrSyntax},
		{api.Net{Devices: make([]api.Device, 11)}, api.ErrLarge},
		{api.Net{Links: make([]api.Link, 15)}, api.ErrArg},
		{api.Net{Links: make([]api.Link, 16)}, api.ErrLarge},
		{api.Net{Devices: make([]api.Device, 10), Links: make([]api.Link, 16)}, api.ErrLarge},
		{api.Net{Devices: make([]api.Device, 0, 50), Links: make([]api.Link, 0, 50)}, api.OK},
	} {
		if e := net.Check(c.n); e != c.want {
			t.Error(len(c.n.Devices), len(c.n.Links), e, c.want)
		}
	}
}

// P10: names, by each byte and each length.
func TestCheckNames(t *testing.T) {
	named := func(s string) api.Errno {
		return net.Check(api.Net{Devices: []api.Device{{Name: s, Kind: api.KFire}}})
	}
	for b := range 256 {
		sign := string([]byte{byte(b)})
		want := api.ErrSyntax
		if b >= 97 && b <= 122 || b >= 48 && b <= 57 {
			want = api.OK
		}
		for _, s := range []string{sign, "a" + sign, sign + "0", "abc" + sign + "def", "abcdefg" + sign} {
			if e := named(s); e != want {
				t.Errorf("%q: %v", s, e)
			}
		}
	}
	for length := range 20 {
		want := api.ErrSyntax
		if length >= 1 && length <= 8 {
			want = api.OK
		}
		if e := named(strings.Repeat("x", length)); e != want {
			t.Error(length, e)
		}
	}
	if e := named(strings.Repeat("x", 1<<20)); e != api.ErrSyntax {
		t.Error(e)
	}
}

// P10: each fault of a device, alone.
func TestCheckDevices(t *testing.T) {
	rules := func(n int) []api.Rule { return make([]api.Rule, n) }
	for i, c := range []struct {
		d    api.Device
		want api.Errno
	}{
		{api.Device{Name: "b", Kind: 0}, api.ErrArg},
		{api.Device{Name: "b", Kind: 6}, api.ErrArg},
		{api.Device{Name: "b", Kind: -1}, api.ErrArg},
		{api.Device{Name: "a", Kind: api.KHost}, api.ErrName},
		{api.Device{Name: "b", Kind: api.KHost, Addr: 1}, api.OK}, // an address may be there twice
		{api.Device{Name: "b", Kind: api.KHost, Pool: 1}, api.ErrArg},
		{api.Device{Name: "b", Kind: api.KHost, Backs: []int{3}}, api.ErrArg},
		{api.Device{Name: "b", Kind: api.KHost, Rules: rules(1)}, api.ErrArg},
		{api.Device{Name: "b", Kind: api.KHost, Routes: make([]api.Route, 1)}, api.ErrArg},
		{api.Device{Name: "b", Kind: api.KRouter, Addr: 1}, api.ErrArg},
		{api.Device{Name: "b", Kind: api.KRouter, Addr: -1}, api.ErrArg},
		{api.Device{Name: "b", Kind: api.KRouter, Pool: 128}, api.ErrArg},
		{api.Device{Name: "b", Kind: api.KRouter, Backs: []int{0}}, api.ErrArg},
		{api.Device{Name: "b", Kind: api.KRouter, Rules: rules(8)}, api.OK},
		{api.Device{Name: "b", Kind: api.KRouter, Rules: rules(9)}, api.ErrLarge},
		{api.Device{Name: "b", Kind: api.KRouter, Routes: make([]api.Route, 9)}, api.ErrLarge},
		{api.Device{Name: "b", Kind: api.KRouter, Routes: make([]api.Route, 2)}, api.ErrName},
		{api.Device{Name: "b", Kind: api.KRouter, Routes: []api.Route{{Value: 1, Bits: 3}}}, api.ErrArg},
		{api.Device{Name: "b", Kind: api.KRouter, Routes: []api.Route{{Port: 4}}}, api.ErrArg},
		{api.Device{Name: "b", Kind: api.KFire, Rules: rules(8)}, api.OK},
		{api.Device{Name: "b", Kind: api.KFire, Rules: rules(9)}, api.ErrLarge},
		{api.Device{Name: "b", Kind: api.KFire, Addr: 15}, api.ErrArg},
		{api.Device{Name: "b", Kind: api.KFire, Pool: 255}, api.ErrArg},
		{api.Device{Name: "b", Kind: api.KFire, Backs: []int{1, 2, 3}}, api.ErrArg},
		{api.Device{Name: "b", Kind: api.KFire, Routes: make([]api.Route, 1)}, api.ErrArg},
		{api.Device{Name: "b", Kind: api.KNat}, api.ErrArg},
		{api.Device{Name: "b", Kind: api.KNat, Pool: 1}, api.OK},
		{api.Device{Name: "b", Kind: api.KNat, Pool: 255, Addr: 15}, api.OK},
		{api.Device{Name: "b", Kind: api.KNat, Pool: 1, Backs: []int{1}}, api.ErrArg},
		{api.Device{Name: "b", Kind: api.KNat, Pool: 1, Rules: rules(1)}, api.ErrArg},
		{api.Device{Name: "b", Kind: api.KNat, Pool: 1, Routes: make([]api.Route, 1)}, api.ErrArg},
		{api.Device{Name: "b", Kind: api.KBalancer}, api.ErrArg},
		{api.Device{Name: "b", Kind: api.KBalancer, Backs: []int{15}}, api.OK},
		{api.Device{Name: "b", Kind: api.KBalancer, Backs: []int{3, 2, 1}}, api.OK},
		{api.Device{Name: "b", Kind: api.KBalancer, Backs: []int{4, 3, 2, 1}}, api.ErrLarge},
		{api.Device{Name: "b", Kind: api.KBalancer, Backs: []int{0}}, api.ErrArg},
		{api.Device{Name: "b", Kind: api.KBalancer, Backs: []int{1, 2, 0}}, api.ErrArg},
		{api.Device{Name: "b", Kind: api.KBalancer, Backs: []int{16}}, api.ErrArg},
		{api.Device{Name: "b", Kind: api.KBalancer, Backs: []int{1, -1}}, api.ErrArg},
		{api.Device{Name: "b", Kind: api.KBalancer, Backs: []int{1, 2, 1}}, api.ErrArg},
		{api.Device{Name: "b", Kind: api.KBalancer, Backs: []int{1}, Pool: 1}, api.ErrArg},
		{api.Device{Name: "b", Kind: api.KBalancer, Backs: []int{1}, Rules: rules(1)}, api.ErrArg},
		{api.Device{Name: "b", Kind: api.KBalancer, Backs: []int{1}, Routes: make([]api.Route, 1)}, api.ErrArg},
	} {
		n := api.Net{Devices: []api.Device{{Name: "a", Kind: api.KHost}, c.d}}
		if e := net.Check(n); e != c.want {
			t.Error(i, c.d, e, c.want)
		}
	}
}

// P1, P10: addresses in, at and beyond their bounds, of each kind.
func TestCheckAddrs(t *testing.T) {
	for _, d := range []api.Device{
		{Kind: api.KHost}, {Kind: api.KRouter}, {Kind: api.KFire}, {Kind: api.KNat, Pool: 8}, {Kind: api.KBalancer, Backs: []int{11}},
	} {
		d.Name = "x"
		for _, d.Addr = range wild {
			want := api.ErrArg
			if d.Addr == 0 || d.Addr > 0 && d.Addr < 16 && d.Kind != api.KRouter && d.Kind != api.KFire {
				want = api.OK
			}
			if e := net.Check(api.Net{Devices: []api.Device{d}}); e != want {
				t.Error(d, e, want)
			}
		}
	}
}

// P10: of several faults of a device the one that is named first is told.
func TestCheckOrder(t *testing.T) {
	tooMany := make([]int, 4)
	steps := []struct {
		d    api.Device
		want api.Errno
	}{
		// From the last fault to the first: each device has those below it, too.
		{api.Device{Name: "b", Kind: api.KRouter, Routes: make([]api.Route, 2)}, api.ErrName},
		{api.Device{Name: "b", Kind: api.KRouter, Routes: make([]api.Route, 2), Rules: make([]api.Rule, 9)}, api.ErrLarge},
		{api.Device{Name: "b", Kind: api.KFire, Routes: make([]api.Route, 2), Rules: make([]api.Rule, 9)}, api.ErrArg},
		{api.Device{Name: "b", Kind: api.KFire, Routes: make([]api.Route, 2), Rules: make([]api.Rule, 9), Backs: tooMany}, api.ErrLarge},
		{api.Device{Name: "b", Kind: api.KFire, Routes: make([]api.Route, 2), Rules: make([]api.Rule, 9), Backs: tooMany, Pool: 1}, api.ErrArg},
		{api.Device{Name: "b", Kind: api.KFire, Backs: tooMany, Addr: 1}, api.ErrArg},
		{api.Device{Name: "b", Kind: 6, Backs: tooMany}, api.ErrArg},
		{api.Device{Name: "a", Kind: 6, Backs: tooMany}, api.ErrName},
		{api.Device{Name: "A", Kind: 6, Backs: tooMany}, api.ErrSyntax},
	}
	for i, c := range steps {
		n := api.Net{
			Devices: []api.Device{{Name: "a", Kind: api.KHost}, c.d, {Name: "A"}},
			Links:   []api.Link{{A: -1}},
		}
		if e := net.Check(n); e != c.want {
			t.Error(i, e, c.want)
		}
	}
	// All of a device comes ahead of the next one, all devices ahead of links,
	// all of a link ahead of the next one.
	host := api.Device{Name: "a", Kind: api.KHost}
	for i, c := range []struct {
		n    api.Net
		want api.Errno
	}{
		{api.Net{Devices: []api.Device{host, {Name: "b"}, {Name: ""}}}, api.ErrArg},
		{api.Net{Devices: []api.Device{host, host, {Name: "b"}}}, api.ErrName},
		{api.Net{Devices: []api.Device{host, host}, Links: []api.Link{{A: 9}}}, api.ErrName},
		{api.Net{Devices: []api.Device{{}, {}}}, api.ErrSyntax}, // the same wrong name twice
		{api.Net{Devices: []api.Device{host}, Links: []api.Link{{}, {A: 9}}}, api.ErrName},
		{api.Net{Devices: []api.Device{host}, Links: []api.Link{{A: 9}, {}}}, api.ErrArg},
		{api.Net{Devices: []api.Device{host}, Links: []api.Link{{P: 1, Q: 1}}}, api.ErrArg},
	} {
		if e := net.Check(c.n); e != c.want {
			t.Error("nets", i, e, c.want)
		}
	}
}

// P1, P10: each end of a link, at each kind, by numbers of all kinds.
func TestCheckLinkEnds(t *testing.T) {
	n := one()
	n.Devices = append(n.Devices, api.Device{Name: "z", Kind: api.KRouter})
	for _, device := range wild {
		for _, port := range wild {
			want := api.ErrArg
			if device >= 0 && device < 6 && port >= 0 && port < ports(n.Devices[device].Kind) {
				want = api.OK
			}
			if device == 5 && port == 3 {
				want = api.ErrName // both ends the same
			}
			for _, l := range []api.Link{{A: device, P: port, B: 5, Q: 3}, {A: 5, P: 3, B: device, Q: port}} {
				n.Links = []api.Link{l}
				if e := net.Check(n); e != want {
					t.Fatal(l, e, want)
				}
			}
		}
	}
	for _, l := range []api.Link{{}, {A: -1}, {B: 1}, {P: 1}} {
		if e := net.Check(api.Net{Links: []api.Link{l}}); e != api.ErrArg {
			t.Error("without devices", l, e)
		}
	}
}

// P10: no end twice, in whatever links and on whichever sides.
func TestCheckLinkTwice(t *testing.T) {
	var devices []api.Device
	for _, name := range []string{"a", "b", "c"} {
		devices = append(devices, api.Device{Name: name, Kind: api.KRouter})
	}
	for i, c := range []struct {
		l    []api.Link
		want api.Errno
	}{
		{[]api.Link{{A: 0, P: 0, B: 1, Q: 0}, {A: 0, P: 1, B: 1, Q: 1}}, api.OK},
		{[]api.Link{{A: 0, P: 0, B: 0, Q: 1}}, api.OK}, // a device may be linked to itself
		{[]api.Link{{A: 0, P: 0, B: 0, Q: 0}}, api.ErrName},
		{[]api.Link{{A: 0, P: 0, B: 1, Q: 0}, {A: 0, P: 0, B: 2, Q: 0}}, api.ErrName},
		{[]api.Link{{A: 0, P: 0, B: 1, Q: 0}, {A: 2, P: 0, B: 0, Q: 0}}, api.ErrName},
		{[]api.Link{{A: 0, P: 0, B: 1, Q: 0}, {A: 1, P: 0, B: 2, Q: 0}}, api.ErrName},
		{[]api.Link{{A: 0, P: 0, B: 1, Q: 0}, {A: 2, P: 0, B: 1, Q: 0}}, api.ErrName},
		{[]api.Link{{A: 0, P: 0, B: 1, Q: 0}, {A: 0, P: 0, B: 1, Q: 0}}, api.ErrName},
		{[]api.Link{{A: 0, P: 0, B: 1, Q: 0}, {A: 1, P: 0, B: 0, Q: 0}}, api.ErrName},
		{[]api.Link{{A: 0, P: 0, B: 1, Q: 0}, {A: 1, P: 1, B: 2, Q: 2}, {A: 2, P: 0, B: 1, Q: 0}}, api.ErrName},
		{[]api.Link{{A: 0, P: 1, B: 1, Q: 0}, {A: 1, P: 1, B: 0, Q: 0}}, api.OK}, // numbers crossed, ends not
	} {
		if e := net.Check(api.Net{Devices: devices, Links: c.l}); e != c.want {
			t.Error(i, e, c.want)
		}
	}
}

// P1, P10: nets of all kinds, right and wrong, in more than one way, too.
func TestCheckIsModel(t *testing.T) {
	r := rand.New(rand.NewSource(2))
	told := map[api.Errno]int{}
	for i := range 40000 {
		n := anyNet(r, i%12)
		for range r.Intn(4) {
			spoil(r, &n)
		}
		want := check(n)
		if e := net.Check(n); e != want {
			t.Fatal(n, e, want)
		}
		told[want]++
	}
	for _, e := range []api.Errno{api.OK, api.ErrArg, api.ErrLarge, api.ErrSyntax, api.ErrName} {
		if told[e] < 100 {
			t.Error("hardly tried", e, told[e])
		}
	}
}

// P10: the other end of a link, both ways; none where no link is.
func TestPeer(t *testing.T) {
	n := one()
	want := map[api.Place]api.Place{
		{Device: 0, Port: 0}: {Device: 1, Port: 0},
		{Device: 1, Port: 0}: {Device: 0, Port: 0},
		{Device: 1, Port: 1}: {Device: 2, Port: 0},
		{Device: 2, Port: 0}: {Device: 1, Port: 1},
		{Device: 3, Port: 1}: {Device: 1, Port: 3},
		{Device: 1, Port: 3}: {Device: 3, Port: 1},
		{Device: 4, Port: 0}: {Device: 4, Port: 1},
		{Device: 4, Port: 1}: {Device: 4, Port: 0},
	}
	for _, device := range wild {
		for _, port := range wild {
			at := api.Place{Device: device, Port: port}
			other, there := want[at]
			if p, ok := net.Peer(n, at); p != other || ok != there {
				t.Error(at, p, ok)
			}
			if p, ok := net.Peer(api.Net{}, at); p != (api.Place{}) || ok {
				t.Error("empty", at, p, ok)
			}
		}
	}
}

// P1, P10: Peer takes any net, and of several links the first one.
func TestPeerOfAnyNet(t *testing.T) {
	far := api.Place{Device: math.MaxInt, Port: math.MinInt}
	for i, c := range []struct {
		l        []api.Link
		at, want api.Place
	}{
		{[]api.Link{{A: 1, P: 2, B: 3, Q: 4}, {A: 1, P: 2, B: 5, Q: 6}}, api.Place{Device: 1, Port: 2}, api.Place{Device: 3, Port: 4}},
		{[]api.Link{{A: 1, P: 2, B: 3, Q: 4}, {A: 3, P: 4, B: 5, Q: 6}}, api.Place{Device: 3, Port: 4}, api.Place{Device: 1, Port: 2}},
		{[]api.Link{{A: 5, P: 6, B: 3, Q: 4}, {A: 3, P: 4, B: 1, Q: 2}}, api.Place{Device: 3, Port: 4}, api.Place{Device: 5, Port: 6}},
		{[]api.Link{{A: 1, P: 1, B: 1, Q: 1}, {A: 1, P: 1, B: 2, Q: 2}}, api.Place{Device: 1, Port: 1}, api.Place{Device: 1, Port: 1}},
		{[]api.Link{{A: -7, P: 99, B: far.Device, Q: far.Port}}, api.Place{Device: -7, Port: 99}, far},
		{[]api.Link{{A: -7, P: 99, B: far.Device, Q: far.Port}}, far, api.Place{Device: -7, Port: 99}},
		{append(make([]api.Link, 50000), api.Link{A: 1, B: 2}), api.Place{Device: 2}, api.Place{Device: 1}},
	} {
		if p, ok := net.Peer(api.Net{Links: c.l}, c.at); p != c.want || !ok {
			t.Error(i, p, ok)
		}
	}
	if p, ok := net.Peer(api.Net{Links: []api.Link{{A: 1, P: 2, B: 3, Q: 4}}}, api.Place{Device: 1, Port: 4}); ok || p != (api.Place{}) {
		t.Error("parts of two ends are no end", p, ok)
	}
}

// HasPlace is Check's way to look at the ends of links: of any net.
func TestHasPlace(t *testing.T) {
	n := one()
	n.Devices = append(n.Devices, api.Device{Kind: 6}, api.Device{})
	for _, device := range wild {
		for _, port := range wild {
			at := api.Place{Device: device, Port: port}
			want := device >= 0 && device < len(n.Devices) && port >= 0 && port < ports(n.Devices[device].Kind)
			if is := net.HasPlace(n, at); is != want {
				t.Error(at, is)
			}
			if net.HasPlace(api.Net{}, at) {
				t.Error("empty", at)
			}
		}
	}
}

// P2: a copy is the same net, and shares no memory with it, spare room
// included.
func TestCopy(t *testing.T) {
	r := rand.New(rand.NewSource(6))
	for i := range 300 {
		n := anyNet(r, i%11)
		if i%4 == 0 {
			spoil(r, &n)
		}
		was := withRoom(n)
		c := net.Copy(n)
		if !same(n, c) {
			t.Fatal(c, n)
		}
		c.Devices, c.Links = c.Devices[:cap(c.Devices)], c.Links[:cap(c.Links)]
		for j, d := range c.Devices {
			wipe(d.Backs)
			wipe(d.Rules)
			wipe(d.Routes)
			c.Devices[j] = api.Device{Name: "other"}
		}
		wipe(c.Links)
		if is := withRoom(n); !reflect.DeepEqual(is, was) {
			t.Fatal("changed", is, was)
		}
	}
	if c := net.Copy(api.Net{}); !same(c, api.Net{}) {
		t.Error(c)
	}
}

func wipe[T any](l []T) { clear(l[:cap(l)]) }

// P2: nets, and the room behind their lists, stay as they are.
func TestNetsStay(t *testing.T) {
	r := rand.New(rand.NewSource(3))
	for i := range 300 {
		n := anyNet(r, 3+i%8)
		for j := range n.Devices {
			d := &n.Devices[j]
			d.Backs = append(d.Backs, 1, 2)[:len(d.Backs)]
			d.Rules = append(d.Rules, anyRules(r, 2)...)[:len(d.Rules)]
			d.Routes = append(d.Routes, api.Route{Port: 7})[:len(d.Routes)]
		}
		n.Devices = append(n.Devices, api.Device{Name: "behind"})[:len(n.Devices)]
		n.Links = append(n.Links, api.Link{A: 8})[:len(n.Links)]
		was := withRoom(n)
		net.Check(n)
		net.Peer(n, api.Place{Device: 1})
		if _, e := net.Print(n); e != api.OK {
			t.Fatal(e)
		}
		if is := withRoom(n); !reflect.DeepEqual(is, was) {
			t.Fatal("changed", is, was)
		}
	}
}

// withRoom is a copy of a net and of the room behind its lists.
func withRoom(n api.Net) api.Net {
	n.Devices, n.Links = n.Devices[:cap(n.Devices)], n.Links[:cap(n.Links)]
	m := api.Net{Devices: slices.Clone(n.Devices), Links: slices.Clone(n.Links)}
	for i, d := range m.Devices {
		m.Devices[i].Backs = slices.Clone(d.Backs[:cap(d.Backs)])
		m.Devices[i].Rules = slices.Clone(d.Rules[:cap(d.Rules)])
		m.Devices[i].Routes = slices.Clone(d.Routes[:cap(d.Routes)])
	}
	return m
}

// P2: answers hang on what was handed in alone: not on calls ahead, failed
// ones included, nor on those of others at the same time.
func TestNothingIsKept(t *testing.T) {
	r := rand.New(rand.NewSource(4))
	var nets []api.Net
	for i := range 60 {
		n := anyNet(r, i%11)
		if i%3 == 0 {
			spoil(r, &n)
		}
		nets = append(nets, n)
	}
	type answer struct {
		text  string
		back  api.Net
		at    int
		e, f  api.Errno
		other api.Place
	}
	answers := make([][]answer, 4)
	var all sync.WaitGroup
	for k := range answers {
		all.Go(func() {
			for i := range nets {
				net.Parse("host a 1\nrouter r\npermit * * * *\n" + strings.Repeat("x", k+i))
				net.Print(nets[(i+k*7)%len(nets)])
			}
			for _, n := range nets {
				var a answer
				a.text, a.e = net.Print(n)
				a.back, a.at, a.f = net.Parse(a.text)
				a.other, _ = net.Peer(n, api.Place{Device: 1, Port: 1})
				answers[k] = append(answers[k], a)
			}
		})
	}
	all.Wait()
	for _, x := range answers[1:] {
		if !reflect.DeepEqual(x, answers[0]) {
			t.Error("answers differ")
		}
	}
}
