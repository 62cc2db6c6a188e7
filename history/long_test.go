package history_test

import (
	"testing"

	"wireward/api"
	"wireward/packet"
)

// Nets in which the way to some packets is long: what is needed for them needs
// much in turn, and devices know again and again what stands in the way.
var long = []struct {
	text   string
	rounds int
}{
	{"lb a 0 1\nlb b 9 1\nlb c 9 5\nlb d 5 9\nlb e 9 1\n" +
		"router f\npermit 0-1,4-5,8,10-13,15 * * *\npermit * * * 2-7\nroute 1/4 3\nroute 5/4 3\n" +
		"host g 0\nlb h 1 9\nlb i 1 0\nlb j 5 9\n" +
		"link b 1 j 1\nlink i 1 g 0\nlink b 0 c 0\nlink a 0 d 0\nlink a 1 j 0\nlink c 1 f 3\nlink h 1 d 1\nlink h 0 e 0\nlink e 1 i 0\n", 89},
	{"lb a 5 9\nlb b 0 1,5\nlb c 9 1\nrouter d\npermit * * * *\nroute 1/4 1\nroute 5/4 3\nroute 9/4 1\nroute 0/4 1\n" +
		"host e 5\nlb f 5 9\nfire g\ndeny * 0,2-4,6-7 2,9 1-2,4-7\npermit * * * *\nhost h 9\nlb i 1 5\nnat j 5 2\n" +
		"link i 0 b 1\nlink i 1 f 0\nlink j 1 h 0\nlink g 1 b 0\nlink a 1 d 2\nlink a 0 d 3\nlink c 1 d 1\nlink d 0 e 0\nlink j 0 f 1\nlink c 0 g 0\n", 57},
	{"lb a 3 2\nrouter b\npermit * * * *\nroute 0/0 1\nhost c 9\nfire d\npermit * * * *\nlb e 0 2\nlb f 9 2\nhost g 0\n" +
		"fire h\ndeny * * * 1-2,4\npermit * * * *\nnat i 8 4\nlb j 2 9\n" +
		"link h 0 g 0\nlink a 1 e 1\nlink i 1 d 0\nlink c 0 d 1\nlink j 1 i 0\nlink h 1 b 3\nlink f 1 e 0\nlink f 0 b 1\nlink j 0 a 0\n", 48},
	{"host a 0\nnat b 1 4,6\nlb c 5 0,9\nrouter d\ndeny * 1,4-5 * 0-4,6\npermit * * * 1-6\nroute 9/4 3\nlb e 0 5,1\n" +
		"router f\npermit * * * *\nroute 5/4 2\nroute 1/4 2\nroute 9/4 3\nroute 0/4 2\nnat g 9 6\nfire h\npermit * * * *\nnat i 9 0,1,4,5\nnat j 9 6\n" +
		"link d 1 f 3\nlink f 2 e 0\nlink b 1 f 0\nlink a 0 h 0\nlink h 1 g 0\nlink b 0 g 1\nlink i 1 d 3\nlink e 1 j 0\nlink c 0 j 1\nlink i 0 c 1\n", 28},
}

// P18: long ways, in which what came in once is handled again and again.
func TestLong(t *testing.T) {
	for _, c := range long {
		n := readNet(t, c.text)
		r, most := reachOf(t, n), 0
		if r.Rounds() != c.rounds {
			t.Error(c.text, r.Rounds())
		}
		for i, d := range n.Devices {
			for k := range portsOf[d.Kind] * (api.Packets / 7) {
				at := api.Place{Device: i, Port: k % portsOf[d.Kind]}
				p, _ := packet.Of(k / portsOf[d.Kind] * 7)
				if r.Round(at, p) >= 0 {
					most = max(most, len(good(t, n, r, at, p)))
				}
			}
		}
		if most < c.rounds {
			t.Error("no long way was asked for", most)
		}
	}
}
