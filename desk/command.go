package desk

import (
	"strconv"
	"strings"

	"wireward/api"
	"wireward/net"
	"wireward/packet"
	"wireward/ring"
	"wireward/verdict"
	"wireward/world"
)

// netCommand answers of a net.
type netCommand func(n api.Net) (string, api.Errno)

// worldCommand answers of a world, in which something may happen by it.
type worldCommand func(w *world.World) (string, api.Errno)

func show(n api.Net) (string, api.Errno) {
	s, e := net.Print(n)
	return s + done, e
}

// ask is the command that tells whether a packet that m has can come to a host.
func ask(host string, m api.Match) netCommand {
	return func(n api.Net) (string, api.Errno) {
		v, e := verdict.Ask(n, host, m, api.MaxNodes)
		// How long the history is hangs on which one is told, and that isn't said.
		s, _, _ := strings.Cut(verdict.Print(v), ",")
		return s, e
	}
}

func rings(n api.Net) (string, api.Errno) {
	counts, e := ring.All(n, api.MaxNodes)
	if len(counts) == 0 {
		return "none", e
	}
	words := make([]string, len(counts))
	for i, count := range counts {
		words[i] = strconv.Itoa(count)
	}
	return strings.Join(words, " "), e
}

// happen is the command that lets an event happen.
func happen(x api.Event) worldCommand {
	return func(w *world.World) (string, api.Errno) { return done, w.Do(x) }
}

// hop is the command that lets an event happen, and tells the arrival by it, if
// that is a new one.
func hop(x api.Event) worldCommand {
	return func(w *world.World) (string, api.Errno) {
		before := len(w.Seen())
		if e := w.Do(x); e != api.OK {
			return "", e
		}
		if seen := w.Seen(); len(seen) > before {
			return arrivalText(seen[before])
		}
		return done, api.OK
	}
}

func arrivalText(x api.Arrival) (string, api.Errno) {
	p, e := packet.Print(x.Packet)
	return strconv.Itoa(x.Place.Device) + " " + strconv.Itoa(x.Place.Port) + " " + p, e
}

func countSeen(w *world.World) (string, api.Errno) {
	return strconv.Itoa(len(w.Seen())), api.OK
}
