package history_test

import (
	"fmt"
	"math"
	"reflect"
	"slices"
	"sync"
	"testing"

	"wireward/api"
	"wireward/history"
	"wireward/net"
	"wireward/packet"
	"wireward/reach"
	"wireward/world"
)

// wild are numbers in, at and beyond the bounds of every part.
var wild = []int{
	math.MinInt, math.MinInt + 1, -1 << 32, -64, -8, -1, 0, 1, 2, 3, 4, 5, 7, 8, 9, 10, 15, 16, 31, 32, 63, 64,
	255, 256, 1 << 16, 1 << 32, 1<<32 + 1, math.MaxInt - 1, math.MaxInt,
}

var portsOf = []int{0, 1, 4, 2, 2, 2} // by kind

// readNet is the net of a text.
func readNet(t *testing.T, s string) api.Net {
	t.Helper()
	n, at, e := net.Parse(s)
	if e != api.OK {
		t.Fatal(s, at, e)
	}
	return n
}

func read(t *testing.T, s string) api.Packet {
	t.Helper()
	p, e := packet.Parse(s)
	if e != api.OK {
		t.Fatal(s, e)
	}
	return p
}

func reachOf(t *testing.T, n api.Net) *reach.Reach {
	t.Helper()
	r, e := reach.New(n, api.MaxNodes)
	if e != api.OK {
		t.Fatal(e)
	}
	return r
}

// chain is a host with address 1, a device d of so many lines, and a host with
// address 2, as a text.
func chain(lines string) string {
	return "host a 1\n" + lines + "host b 2\nlink a 0 d 0\nlink d 1 b 0\n"
}

// The places of a chain.
var (
	left  = api.Place{Device: 0}
	in    = api.Place{Device: 1}
	out   = api.Place{Device: 1, Port: 1}
	right = api.Place{Device: 2}
)

// good is a history that can be done, and whose last event brings p to a place,
// for the first time.
func good(t *testing.T, n api.Net, r *reach.Reach, at api.Place, p api.Packet) []api.Event {
	t.Helper()
	l, e := history.Of(n, r, at, p)
	if e != api.OK || len(l) == 0 || len(l) > api.MaxEvents {
		t.Fatal(n, at, p, len(l), e)
	}
	w, e := world.New(n)
	if e != api.OK {
		t.Fatal(e)
	}
	for i, x := range l {
		if w.Has(at, p) {
			t.Fatal(n, at, p, "was there ahead of event", i, "of", l)
		}
		if e := w.Do(x); e != api.OK {
			t.Fatal(n, at, p, "event", i, "of", l, "is", e)
		}
	}
	if !w.Has(at, p) {
		t.Fatal(n, at, p, "isn't there behind", l)
	}
	seen, _, e := world.Run(n, l)
	if e != api.OK || seen[len(seen)-1] != (api.Arrival{Place: at, Packet: p}) {
		t.Fatal(n, at, p, e, seen)
	}
	return l
}

// none holds that there is no history.
func none(t *testing.T, n api.Net, r *reach.Reach, at api.Place, p api.Packet) {
	t.Helper()
	if l, e := history.Of(n, r, at, p); l != nil || e != api.ErrNone {
		t.Fatal(n, at, p, l, e)
	}
}

// every asks for all packets at all places of a net, and tells how many come.
func every(t *testing.T, n api.Net) int {
	t.Helper()
	r, count := reachOf(t, n), 0
	for i, d := range n.Devices {
		for port := range portsOf[d.Kind] {
			at := api.Place{Device: i, Port: port}
			for code := range api.Packets {
				p, _ := packet.Of(code)
				if r.Round(at, p) < 0 {
					none(t, n, r, at, p)
					continue
				}
				good(t, n, r, at, p)
				count++
			}
		}
	}
	return count
}

// P18: all that comes anywhere, behind each kind of device.
func TestEvery(t *testing.T) {
	for _, c := range []struct {
		text  string
		count int
	}{
		{"", 0},
		{"host a 1\nrouter r\n", 0},
		{"host a 1\nhost b 2\nlink b 0 a 0\n", 2 * 1024},
		{chain("router d\ndeny * 3 * *\npermit 1-2 * 2,9 *\nroute 0/0 1\nroute 8/1 0\n"), 2*1024 + 2*2*7*8},
		{chain("fire d\ndeny * 3 * *\npermit * * 2,4 *\n"), 2*1024 + 2*7*8 + 7*8},
		{chain("nat d 9 1,2,7\n"), 2*1024 + 3*16*8 + 8*8},
		{chain("nat d 1 0\n"), 2*1024 + 16*8 + 8*8},
		{chain("lb d 5 2,7\n"), 2*1024 + 15*8*8 + 1024 + 8*8},
		{chain("lb d 5 6\n"), 2*1024 + 15*8*8 + 1024},
	} {
		if count := every(t, readNet(t, c.text)); count != c.count {
			t.Error(c.text, count, "not", c.count)
		}
	}
}

// P18: a question first, then its answer, through one device behind the other.
func TestQuestionAndAnswer(t *testing.T) {
	for _, c := range []struct {
		lines, answer string // a text of devices c and d, and what comes to a
	}{
		{"fire c\npermit * * * *\nfire d\npermit * * * *\n", "2:4>1:3"},
		{"fire c\npermit * * * *\nnat d 9 1\n", "2:4>1:3"},
		{"nat c 8 0\nnat d 9 1\n", "2:4>1:3"},
		{"nat c 8 0\nlb d 5 2,7\n", "5:4>1:3"},
		{"lb c 5 6,2\nfire d\npermit * * 2 *\n", "5:4>1:3"},
		{"lb c 4 5\nlb d 5 7,2\n", "4:4>1:3"},
	} {
		n := readNet(t, "host a 1\n"+c.lines+"host b 2\nlink a 0 c 0\nlink c 1 d 0\nlink d 1 b 0\n")
		l := good(t, n, reachOf(t, n), left, read(t, c.answer))
		asked := slices.IndexFunc(l, func(x api.Event) bool { return x.Kind == api.EHop && x.Port == 0 })
		answered := slices.IndexFunc(l, func(x api.Event) bool { return x.Kind == api.EHop && x.Port == 1 })
		if asked < 0 || answered < asked {
			t.Error(c, l)
		}
	}
}

// forgets is how many events of a history are such.
func forgets(l []api.Event) int {
	count := 0
	for _, x := range l {
		if x.Kind == api.EExpire {
			count++
		}
	}
	return count
}

// P18: where a device must forget something on the way.
func TestMustForget(t *testing.T) {
	for name, c := range map[string]struct {
		text string
		at   api.Place
		goal string
	}{
		// 1:5 has the one port when 9:7>9:7 goes out, 1:3 when it comes back
		"another owner of a port": {"host a 1\nrouter q\npermit 1 5 9 7\npermit 1 3 2 0\npermit 9 * 1 *\nroute 0/0 1\nroute 1/4 0\n" +
			"nat d 9 7\nrouter s\npermit 9 7 9 7\nroute 9/4 0\n" +
			"link a 0 q 0\nlink q 1 d 0\nlink d 1 s 0\n", left, "9:7>1:3"},
		// 1:5 has port 0 when 9:0>9:1 goes out, port 1 when it comes back
		"another port of an owner": {"host a 1\nrouter q\npermit 1 5 9 1\npermit 9 * 1 *\nroute 0/0 1\nroute 1/4 0\n" +
			"nat d 9 0,1\nrouter s\npermit 9 0 9 1\nroute 9/4 0\n" +
			"link a 0 q 0\nlink q 1 d 0\nlink d 1 s 0\n", left, "9:0>1:5"},
		// b can answer only once d sent to it what was for d itself
		"a back, for an answer as it is": {"host a 1\nrouter q\npermit 1 0 5 0\npermit 2 * 1 *\nroute 0/0 1\nroute 1/4 0\n" +
			"lb d 5 2\nfire f\npermit * * * *\nhost b 2\n" +
			"link a 0 q 0\nlink q 1 d 0\nlink d 1 f 0\nlink f 1 b 0\n", left, "2:0>1:0"},
		// what d sent to 2 comes back from 3: of 1:0>2:0 g makes 3:0>2:0, and of
		// that e 3:0>1:0
		"a back, for an answer of another one": {"host a 1\nrouter q\npermit 1 0 5 0\npermit 5 * 1 *\nroute 0/0 1\nroute 1/4 0\n" +
			"lb d 5 2,3\nrouter s\npermit 1 0 2 0\npermit 3 0 1 0\nroute 0/0 1\nroute 1/4 0\nnat g 3 0\nlb e 2 1\n" +
			"link a 0 q 0\nlink q 1 d 0\nlink d 1 s 0\nlink s 1 g 0\nlink g 1 e 0\nlink e 1 s 2\n", left, "5:0>1:0"},
		// 1:0>5:0 must come to g as 1:0>2:0 inside, and to e as 1:0>3:0, which e
		// makes 1:0>9:0, outside
		"a back, for another one": {"host a 1\nrouter q\npermit 1 0 5 0\nroute 0/0 1\nlb d 5 2,3\n" +
			"router s\npermit * * * *\nroute 2/4 1\nroute 3/4 2\nnat g 9 0\nlb e 3 9\n" +
			"link a 0 q 0\nlink q 1 d 0\nlink d 1 s 0\nlink s 1 g 0\nlink s 2 e 0\nlink e 1 g 1\n", api.Place{Device: 3, Port: 1}, "1:0>1:0"},
	} {
		n := readNet(t, c.text)
		r := reachOf(t, n)
		if l := good(t, n, r, c.at, read(t, c.goal)); forgets(l) == 0 {
			t.Error(name, l)
		}
		every(t, n)
	}
}

// P18: nets in which packets come back to where they were.
func TestLoops(t *testing.T) {
	for _, text := range []string{
		"router d\npermit * * * *\nroute 0/0 0\nhost a 1\nlink d 0 d 1\nlink d 3 a 0\n",
		"nat d 9 0\nrouter s\npermit * * * *\nroute 0/0 1\nroute 9/4 2\nhost a 1\nlink a 0 s 0\nlink s 1 d 0\nlink d 1 s 2\n",
		"lb d 9 1,3\nrouter s\npermit * 0-1 * 3\nroute 0/0 1\nroute 1/4 2\nhost a 1\nlink a 0 s 0\nlink s 1 d 0\nlink d 1 s 2\n",
		"fire d\npermit * * * *\nrouter s\npermit * * * *\nroute 0/0 1\nroute 1/4 2\nhost a 1\nlink a 0 s 0\nlink s 1 d 0\nlink d 1 s 2\n",
	} {
		every(t, readNet(t, text))
	}
}

// P18: a packet that is another one each time it comes round.
func TestRoundAndRound(t *testing.T) {
	n := readNet(t, "host a 4\nrouter q\npermit 4 0 0 0\nroute 0/0 1\nrouter d\npermit * * * *\nroute 0/0 1\n"+
		"lb e 2 3\nlb f 1 2\nlb g 0 1\n"+
		"link a 0 q 0\nlink q 1 d 0\nlink d 1 e 0\nlink e 1 f 0\nlink f 1 g 0\nlink g 1 d 2\n")
	l := good(t, n, reachOf(t, n), api.Place{Device: 3}, read(t, "4:0>3:0"))
	if len(l) < 15 {
		t.Error("it can't have come there in", l)
	}
	every(t, n)
}

// P1, P18: places and packets that none may be, or to which, or which, nothing
// comes.
func TestNone(t *testing.T) {
	n := readNet(t, chain("nat d 9 1\n"))
	r := reachOf(t, n)
	for _, device := range wild {
		for _, port := range wild {
			at := api.Place{Device: device, Port: port}
			if at == in {
				good(t, n, r, at, api.Packet{Src: 1})
			} else {
				none(t, n, r, at, api.Packet{Src: 1})
			}
		}
	}
	for _, number := range wild {
		for part, most := range []int{15, 15, 7, 7} {
			p := api.Packet{Src: 1}
			*[]*int{&p.Src, &p.Dst, &p.Sport, &p.Dport}[part] = number
			if number >= 0 && number <= most && p.Src == 1 {
				good(t, n, r, in, p)
			} else {
				none(t, n, r, in, p)
			}
		}
	}
	none(t, n, r, left, read(t, "3:0>1:0"))
	none(t, n, r, left, read(t, "2:0>9:1"))
	none(t, n, r, right, read(t, "1:0>2:0"))
	none(t, n, r, right, read(t, "9:2>2:0"))
	// nobody asked, so nobody answers
	n = readNet(t, chain("fire d\npermit 1 * 3 *\n"))
	none(t, n, reachOf(t, n), left, read(t, "2:0>1:0"))
	none(t, api.Net{}, reachOf(t, api.Net{}), api.Place{}, api.Packet{})
}

const busy = "host a 1\nrouter q\ndeny * * 3 *\npermit * * * *\nroute 0/0 1\nroute 1/4 0\nfire f\npermit 1 * * *\n" +
	"nat g 9 0,3\nlb h 5 6,2\nhost b 2\nlink a 0 q 0\nlink q 1 f 0\nlink f 1 g 0\nlink g 1 h 0\nlink h 1 b 0\n"

// P18: one of each kind, one behind the other.
func TestBusy(t *testing.T) {
	if count := every(t, readNet(t, busy)); count < 1000 {
		t.Error("hardly anything came", count)
	}
}

// goals are some of the packets that come to each place.
func goals(n api.Net, r *reach.Reach) []api.Arrival {
	var l []api.Arrival
	for device := range n.Devices {
		for port := range 2 {
			for k := range 16 * 8 {
				at, m := api.Place{Device: device, Port: port}, api.Match{Src: 1 << (k / 8), Dst: 0xfff5, Sport: 0xfe, Dport: 1 << (k % 8)}
				if p, ok := r.First(at, m); ok {
					l = append(l, api.Arrival{Place: at, Packet: p})
				}
			}
		}
	}
	return l
}

func histories(n api.Net, r *reach.Reach, goals []api.Arrival) [][]api.Event {
	var l [][]api.Event
	for _, x := range goals {
		h, _ := history.Of(n, r, x.Place, x.Packet)
		l = append(l, h)
	}
	return l
}

// P2: what is handed in isn't changed, the room behind its lists included.
func TestNothingIsChanged(t *testing.T) {
	n := readNet(t, busy)
	for i := range n.Devices {
		d := &n.Devices[i]
		d.Backs = append(d.Backs, 8, 8)[:len(d.Backs)]
		d.Rules = append(d.Rules, api.Rule{Permit: true}, api.Rule{Permit: true})[:len(d.Rules)]
		d.Routes = append(d.Routes, api.Route{Port: 9}, api.Route{Port: 9})[:len(d.Routes)]
	}
	n.Devices = append(n.Devices, api.Device{Name: "x"})[:len(n.Devices)]
	n.Links = append(n.Links, api.Link{A: 9})[:len(n.Links)]
	text := func() string {
		s := fmt.Sprint(n.Devices[:len(n.Devices)+1], n.Links[:len(n.Links)+1])
		for _, d := range n.Devices {
			s += fmt.Sprint(d.Backs[:len(d.Backs)+2], d.Rules[:len(d.Rules)+2], d.Routes[:len(d.Routes)+2])
		}
		return s
	}
	was, r, same := text(), reachOf(t, n), reachOf(t, n)
	asked := goals(n, r)
	if histories(n, r, asked); len(asked) < 50 {
		t.Error("hardly anything was asked", len(asked))
	}
	if s := text(); s != was {
		t.Error("the net was changed", s)
	}
	if !reflect.DeepEqual(r, same) {
		t.Error("the reach was changed")
	}
}

// P2: an answer is the caller's own, and hangs on nothing but what was handed
// in, whoever else asks at the same time.
func TestAnswerIsNew(t *testing.T) {
	n := readNet(t, busy)
	r := reachOf(t, n)
	asked := goals(n, r)
	want := histories(n, r, asked)
	for _, l := range histories(n, r, asked) {
		l = l[:cap(l)]
		for i := range l {
			l[i] = api.Event{Kind: 9}
		}
	}
	answers := make([][][]api.Event, 8)
	var done sync.WaitGroup
	for k := range answers {
		other := []*reach.Reach{r, reachOf(t, n)}[k%2]
		done.Go(func() { answers[k] = histories(n, other, asked) })
	}
	done.Wait()
	for k, l := range answers {
		if !reflect.DeepEqual(l, want) {
			t.Error(k, "answers otherwise")
		}
	}
}
