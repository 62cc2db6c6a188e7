package verdict_test

import (
	"math"
	"reflect"
	"slices"
	"sort"
	"sync"
	"testing"

	"wireward/api"
	"wireward/match"
	"wireward/net"
	"wireward/packet"
	"wireward/reach"
	"wireward/verdict"
	"wireward/world"
)

// wild are numbers in, at and beyond the bounds of every part.
var wild = []int{
	math.MinInt, math.MinInt + 1, -1 << 32, -64, -8, -1, 0, 1, 2, 3, 4, 5, 7, 8, 9, 10, 15, 16, 31, 32, 63, 64,
	255, 256, 1 << 16, 1 << 32, 1<<32 + 1, math.MaxInt - 1, math.MaxInt,
}

func read(t *testing.T, s string) api.Packet {
	t.Helper()
	p, e := packet.Parse(s)
	if e != api.OK {
		t.Fatal(s, e)
	}
	return p
}

func readMatch(t *testing.T, s string) api.Match {
	t.Helper()
	m, e := match.Parse(s)
	if e != api.OK {
		t.Fatal(s, e)
	}
	return m
}

// zero holds that a verdict is the one that tells nothing.
func zero(t *testing.T, v api.Verdict) {
	t.Helper()
	if v.Reached || v.Packet != (api.Packet{}) || len(v.History) != 0 {
		t.Error(v)
	}
}

// placeOf is where packets come in at a device.
func placeOf(n api.Net, name string) api.Place {
	return api.Place{Device: slices.IndexFunc(n.Devices, func(d api.Device) bool { return d.Name == name })}
}

// asked is a verdict that holds in the whole net: its packet is the first one of
// those that can come to the host, and comes by the last event of its history.
func asked(t *testing.T, n api.Net, host string, m api.Match) api.Verdict {
	t.Helper()
	v, e := verdict.Ask(n, host, m, api.MaxNodes)
	if e != api.OK {
		t.Fatal(n, host, m, e)
	}
	at := placeOf(n, host)
	r, e := reach.New(n, api.MaxNodes)
	if p, ok := r.First(at, m); e != api.OK || ok != v.Reached || p != v.Packet {
		t.Fatal(n, host, m, v, "not", p, ok, e)
	}
	if !v.Reached {
		zero(t, v)
		return v
	}
	if !match.In(m, v.Packet) {
		t.Fatal(n, host, m, v.Packet, "isn't asked for")
	}
	done(t, n, api.Arrival{Place: at, Packet: v.Packet}, v.History)
	return v
}

// done does a history, whose last event brings x, which none ahead does.
func done(t *testing.T, n api.Net, x api.Arrival, l []api.Event) {
	t.Helper()
	w, e := world.New(n)
	if e != api.OK {
		t.Fatal(n, e)
	}
	for i, y := range l {
		if w.Has(x.Place, x.Packet) {
			t.Fatal(n, x, "was there ahead of event", i, "of", l)
		}
		if e := w.Do(y); e != api.OK {
			t.Fatal(n, x, "event", i, "of", l, "is", e)
		}
	}
	if !w.Has(x.Place, x.Packet) {
		t.Fatal(n, x, "isn't there behind", l)
	}
	if seen, _, e := world.Run(n, l); e != api.OK || seen[len(seen)-1] != x {
		t.Fatal(n, x, e, seen)
	}
}

// P19: which packet comes first of those that are asked for, if one does.
func TestAsk(t *testing.T) {
	behind := func(device string) string {
		return "nat k 6 3\nhost a 1\nhost x 7\n" + device + "host y 8\nhost b 2\nlink y 0 x 0\nlink a 0 d 0\nlink d 1 b 0\n"
	}
	for _, c := range []struct{ text, host, match, packet string }{
		{parts, "a", "* * * *", "2:0>1:0"},
		{parts, "a", "2 3-7 1 5", "2:3>1:5"},
		{parts, "a", "1 * * *", ""},
		{parts, "a", "7-8 * * *", ""},
		{parts, "b", "* 1-2 * 6", "1:1>2:6"},
		{parts, "b", "* * 1 *", ""},
		// what a host sends to itself comes back ahead of what others send
		{parts, "y", "* * * *", "8:0>8:0"},
		{parts, "y", "7 * * *", "7:0>8:0"},
		{parts, "y", "* * * 3", ""},
		{parts, "y", "7 4 8 1-3", "7:4>8:1"},
		{parts, "x", "* * * *", "7:0>7:0"},
		{parts, "x", "5,8 * * *", "5:0>7:0"},
		{parts, "x", "8 * * *", "8:0>7:0"},
		{parts, "x", "5 * * *", "5:0>7:0"},
		{parts, "x", "5 * * 3", ""},
		{parts, "z", "* * * *", ""},
		{"host a 1\n", "a", "* * * *", ""},
		{"host a 1\nhost b 1\nlink a 0 b 0\n", "a", "* * 15 7", "1:0>15:7"},
		{"router r\npermit * * * *\nroute 0/0 0\nhost a 1\nlink a 0 r 0\n", "a", "* * * 2", "1:0>0:2"},
		{behind("router d\npermit * * * 4\nroute 2/4 1\n"), "b", "* * * *", "1:0>2:4"},
		{behind("router d\npermit * * * 4\nroute 2/4 1\n"), "a", "* * * *", ""},
		{behind("router d\nroute 0/0 1\n"), "b", "* * * *", ""},
		{behind("router d\npermit * * * *\n"), "b", "* * * *", ""},
		{behind("fire d\npermit * 5 2 *\n"), "a", "* * * *", "2:0>1:5"},
		{behind("fire d\npermit * 5 3 *\n"), "a", "* * * *", ""},
		{behind("fire d\npermit * 5 3 *\n"), "b", "* * * *", "1:5>3:0"},
		{behind("nat d 9 4,6\n"), "b", "* * 2 *", "9:4>2:0"},
		{behind("nat d 9 4,6\n"), "b", "1 * * *", ""},
		{behind("nat d 9 4,6\n"), "a", "* * * 7", "2:0>1:7"},
		{behind("nat d 9 4,6\n"), "a", "* * 9 *", ""},
		{behind("lb d 5 3,2\n"), "b", "* * * *", "1:0>0:0"},
		{behind("lb d 5 3,2\n"), "b", "* * 5 *", ""},
		{behind("lb d 5 3,2\n"), "a", "* * 0 *", "2:0>0:0"},
		{behind("lb d 5 3,2\n"), "a", "5 * * *", "5:0>1:0"},
		{behind("lb d 5 3\n"), "a", "5 * * *", ""},
		{behind("fire d\npermit * * * *\n"), "y", "7 * 3 *", "7:0>3:0"},
	} {
		v := asked(t, readNet(t, c.text), c.host, readMatch(t, c.match))
		if v.Reached != (c.packet != "") || v.Reached && v.Packet != read(t, c.packet) {
			t.Error(c, v)
		}
	}
}

// P19: of a net of one device behind a host, each packet by itself: what comes
// is told with a history, and nothing else is.
func TestAskForEach(t *testing.T) {
	n := readNet(t, "host x 7\nnat d 9 4\nhost a 1\nhost b 2\nlink d 1 b 0\nlink a 0 d 0\n")
	count := 0
	for code := 0; code < api.Packets; code += 3 {
		p, _ := packet.Of(code)
		v, e := verdict.Ask(n, "a", just(p), api.MaxNodes)
		if comes := p.Src == 2 && p.Dst == 1; e != api.OK || v.Reached != comes || comes && v.Packet != p {
			t.Fatal(p, v, e)
		}
		if v.Reached {
			done(t, n, api.Arrival{Place: placeOf(n, "a"), Packet: p}, v.History)
			count++
		}
	}
	if count < 20 {
		t.Error("hardly anything came", count)
	}
}

// P19: who only answers comes in only behind who asked.
func TestQuestionFirst(t *testing.T) {
	n := readNet(t, parts)
	v := asked(t, n, "a", match.All())
	isHop := func(port int, p api.Packet) func(x api.Event) bool {
		return func(x api.Event) bool {
			return x.Kind == api.EHop && x.Device == placeOf(n, "f").Device && x.Port == port && x.Packet == p
		}
	}
	question := slices.IndexFunc(v.History, isHop(0, packet.Flip(v.Packet)))
	answer := slices.IndexFunc(v.History, isHop(1, v.Packet))
	if question < 0 || answer != len(v.History)-1 || question >= answer {
		t.Error(v)
	}
}

// P19: a match that has no packet.
func TestAskForNone(t *testing.T) {
	n := readNet(t, parts)
	for _, s := range []string{"- * * *", "* - * *", "* * - *", "* * * -", "- - - -"} {
		for _, host := range []string{"a", "b", "x", "y", "z"} {
			zero(t, asked(t, n, host, readMatch(t, s)))
		}
	}
}

// P19: the error of the net, then of the name, then of the room.
func TestAskErrors(t *testing.T) {
	is := func(n api.Net, host string, most int, want api.Errno) {
		t.Helper()
		v, e := verdict.Ask(n, host, match.All(), most)
		if e != want || !reflect.DeepEqual(v, api.Verdict{}) {
			t.Error(n, host, most, v, e, "not", want)
		}
	}
	for _, n := range wrongNets(t) {
		is(n, "a", api.MaxNodes, net.Check(n))
		is(n, "z", 2, net.Check(n))
		is(n, "none", api.MaxNodes, net.Check(n))
		is(n, "none", -1, net.Check(n))
	}
	n := readNet(t, parts)
	for _, host := range noHosts {
		is(n, host, api.MaxNodes, api.ErrNone)
		is(n, host, 0, api.ErrNone)
		is(api.Net{}, host, api.MaxNodes+1, api.ErrNone)
	}
	for _, most := range append(wild, api.MaxNodes+1) {
		want := api.ErrArg
		if most >= 2 && most <= 10 {
			want = api.ErrFull
		} else if most > 0 && most <= api.MaxNodes {
			continue
		}
		is(n, "a", most, want)
		is(n, "x", most, want)
	}
	for _, most := range []int{math.MinInt, -1, 0, 1, api.MaxNodes + 1, math.MaxInt} {
		is(n, "z", most, api.ErrArg)
	}
	if v, e := verdict.Ask(n, "z", match.All(), 2); e != api.OK || v.Reached {
		t.Error("a host alone needs no more nodes", v, e)
	}
}

// P19: what other parts of a net need isn't asked for: there is room just if
// there is for the slice, whatever is looked for.
func TestAskHasRoomForTheSlice(t *testing.T) {
	n := readNet(t, parts)
	for host, text := range map[string]string{"a": partOfA, "b": partOfA, "x": partOfX, "y": partOfX, "z": partOfZ} {
		least := leastMost(t, readNet(t, text))
		if _, e := reach.New(n, least); e != api.ErrFull {
			t.Fatal(host, "the whole net has room, too", e)
		}
		want := asked(t, n, host, match.All())
		if v, e := verdict.Ask(n, host, match.All(), least); e != api.OK || !reflect.DeepEqual(v, want) {
			t.Error(host, least, v, e, "not", want)
		}
		for _, m := range []api.Match{match.All(), {}} {
			if v, e := verdict.Ask(n, host, m, least-1); least > 2 && (e != api.ErrFull || !reflect.DeepEqual(v, api.Verdict{})) {
				t.Error(host, least-1, v, e)
			}
		}
	}
}

// leastMost is the least number of nodes with which there are the sets of a
// net.
func leastMost(t *testing.T, n api.Net) int {
	t.Helper()
	return 2 + sort.Search(api.MaxNodes-2, func(k int) bool {
		_, e := reach.New(n, 2+k)
		return e == api.OK
	})
}

// P2: what is handed in isn't changed, the room behind its lists included; an
// answer is the caller's own, and the same each time, whoever else asks.
func TestAskIsNew(t *testing.T) {
	n := roomy(readNet(t, parts))
	was := allOf(n)
	hosts := []string{"a", "b", "x", "y", "z"}
	all := func() []api.Verdict {
		var l []api.Verdict
		for _, host := range hosts {
			v, _ := verdict.Ask(n, host, match.All(), api.MaxNodes)
			l = append(l, v)
		}
		return l
	}
	want := all()
	for _, v := range all() {
		l := v.History[:cap(v.History)]
		for i := range l {
			l[i] = api.Event{Kind: 9}
		}
	}
	answers := make([][]api.Verdict, 8)
	var wait sync.WaitGroup
	for k := range answers {
		wait.Go(func() { answers[k] = all() })
	}
	wait.Wait()
	for k, l := range answers {
		if !reflect.DeepEqual(l, want) {
			t.Error(k, "answers otherwise")
		}
	}
	if allOf(n) != was {
		t.Error("the net was changed")
	}
}

// P20: the text of a verdict.
func TestPrint(t *testing.T) {
	events := func(count int) []api.Event { return make([]api.Event, count) }
	p := api.Packet{Src: 1, Dst: 3, Sport: 2, Dport: 4}
	for _, c := range []struct {
		v    api.Verdict
		want string
	}{
		{api.Verdict{}, "isolated"},
		{api.Verdict{Packet: p, History: events(3)}, "isolated"},
		{api.Verdict{Packet: api.Packet{Src: -1}}, "isolated"},
		{api.Verdict{Reached: true}, "reached 0:0>0:0, 0 events"},
		{api.Verdict{Reached: true, Packet: p}, "reached 1:2>3:4, 0 events"},
		{api.Verdict{Reached: true, Packet: p, History: events(0)}, "reached 1:2>3:4, 0 events"},
		{api.Verdict{Reached: true, Packet: p, History: events(1)}, "reached 1:2>3:4, 1 events"},
		{api.Verdict{Reached: true, Packet: p, History: events(10)}, "reached 1:2>3:4, 10 events"},
		{api.Verdict{Reached: true, Packet: p, History: events(2000)}, "reached 1:2>3:4, 2000 events"},
		{api.Verdict{Reached: true, Packet: p, History: events(70001)}, "reached 1:2>3:4, 70001 events"},
		{api.Verdict{Reached: true, Packet: api.Packet{Src: 15, Dst: 10, Sport: 7, Dport: 7}, History: events(4)}, "reached 15:7>10:7, 4 events"},
		{api.Verdict{Reached: true, Packet: api.Packet{Src: 16}}, "reached ?, 0 events"},
		{api.Verdict{Reached: true, Packet: api.Packet{Dport: 8}, History: events(12)}, "reached ?, 12 events"},
	} {
		if s := verdict.Print(c.v); s != c.want {
			t.Error(s, "not", c.want)
		}
	}
}

// P1, P20: a packet that none may be.
func TestPrintWild(t *testing.T) {
	for _, number := range wild {
		for part, most := range []int{15, 15, 7, 7} {
			v := api.Verdict{Reached: true, History: []api.Event{{Kind: number}, {Device: number}}}
			*[]*int{&v.Packet.Src, &v.Packet.Dst, &v.Packet.Sport, &v.Packet.Dport}[part] = number
			want := "reached ?, 2 events"
			if number >= 0 && number <= most {
				text, _ := packet.Print(v.Packet)
				want = "reached " + text + ", 2 events"
			}
			if s := verdict.Print(v); s != want {
				t.Error(s, "not", want)
			}
		}
	}
}
