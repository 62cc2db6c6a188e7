package history

import (
	"slices"
	"testing"

	"wireward/api"
	"wireward/match"
	"wireward/net"
	"wireward/reach"
)

// P18: ErrLarge, and no history, if that has more events than there may be;
// just as many are told.
func TestLarge(t *testing.T) {
	for _, device := range []string{
		"router d\npermit * * * *\nroute 0/0 1\nroute 1/4 0\n", "fire d\npermit * * * *\n", "nat d 9 3\n", "lb d 5 2,7\n",
	} {
		n, _, e := net.Parse("host a 1\n" + device + "host b 2\nlink a 0 d 0\nlink d 1 b 0\n")
		if e != api.OK {
			t.Fatal(e)
		}
		r, e := reach.New(n, api.MaxNodes)
		if e != api.OK {
			t.Fatal(e)
		}
		for _, at := range []api.Place{{Device: 0}, {Device: 1}, {Device: 2}} {
			p, ok := r.First(at, match.All())
			if !ok {
				t.Fatal(device, at)
			}
			limits(t, n, r, api.Arrival{Place: at, Packet: p})
		}
		never := api.Arrival{Packet: api.Packet{Src: 15}}
		if l, e := within(n, r, never, 0); l != nil || e != api.ErrNone {
			t.Error(l, e)
		}
	}
}

// limits asks for a history of at most so many events, for each such number.
func limits(t *testing.T, n api.Net, r *reach.Reach, goal api.Arrival) {
	t.Helper()
	whole, e := Of(n, r, goal.Place, goal.Packet)
	if e != api.OK {
		t.Fatal(goal, e)
	}
	for most := range len(whole) + 2 {
		l, e := within(n, r, goal, most)
		if most < len(whole) && (l != nil || e != api.ErrLarge) {
			t.Error(goal, most, l, e, "of", len(whole))
		}
		if most >= len(whole) && (!slices.Equal(l, whole) || e != api.OK) {
			t.Error(goal, most, l, e, "of", len(whole))
		}
	}
}
