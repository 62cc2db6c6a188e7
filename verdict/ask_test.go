package verdict

import (
	"reflect"
	"testing"

	"wireward/api"
	"wireward/match"
	"wireward/net"
	"wireward/reach"
)

// mixed is a net in which the part of a, b and d is at other numbers than by
// itself.
const mixed = "host x 7\nhost b 2\nhost y 8\nfire d\npermit * * * *\nhost a 1\nlink x 0 y 0\nlink a 0 d 0\nlink d 1 b 0\n"

func mixedNet(t *testing.T) api.Net {
	t.Helper()
	n, _, e := net.Parse(mixed)
	if e != api.OK {
		t.Fatal(e)
	}
	return n
}

// P19: an error of who tells the history is the answer, and nothing beside it,
// but only where there is one to tell.
func TestErrorOfHistory(t *testing.T) {
	n := mixedNet(t)
	large := func(api.Net, *reach.Reach, api.Place, api.Packet) ([]api.Event, api.Errno) { return nil, api.ErrLarge }
	if v, e := ask(n, "a", match.All(), api.MaxNodes, large); e != api.ErrLarge || !reflect.DeepEqual(v, api.Verdict{}) {
		t.Error(v, e)
	}
	if v, e := ask(n, "a", api.Match{}, api.MaxNodes, large); e != api.OK || !reflect.DeepEqual(v, api.Verdict{}) {
		t.Error(v, e)
	}
	for want, most := range map[api.Errno]int{api.ErrArg: 1, api.ErrFull: 2} {
		if _, e := ask(n, "a", match.All(), most, large); e != want {
			t.Error(most, e)
		}
	}
}

// P19: a history is asked for in the slice, and each of its events is told of
// the device that it has in the whole net.
func TestHistoryOfSlice(t *testing.T) {
	n := mixedNet(t)
	part, _ := Slice(n, "a")
	tell := func(n api.Net, r *reach.Reach, at api.Place, p api.Packet) ([]api.Event, api.Errno) {
		if !reflect.DeepEqual(n, part) || at != (api.Place{Device: 2}) || p != (api.Packet{Src: 2, Dst: 1}) || r.Round(at, p) != 1 {
			t.Error(n, at, p)
		}
		return []api.Event{{Kind: 1, Device: 2, Packet: p}, {Kind: 2, Device: 1, Port: 1, Choice: 2}, {Kind: 3, Device: 0, Choice: 1}}, api.OK
	}
	m := match.All()
	m.Dst = 1 << 1
	v, e := ask(n, "a", m, api.MaxNodes, tell)
	p := api.Packet{Src: 2, Dst: 1}
	want := api.Verdict{Reached: true, Packet: p, History: []api.Event{
		{Kind: 1, Device: 4, Packet: p}, {Kind: 2, Device: 3, Port: 1, Choice: 2}, {Kind: 3, Device: 1, Choice: 1},
	}}
	if e != api.OK || !reflect.DeepEqual(v, want) {
		t.Error(v, e)
	}
}
