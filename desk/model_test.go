package desk_test

import (
	"fmt"
	"math/rand"
	"regexp"
	"strconv"
	"strings"
	"testing"

	"wireward/api"
	"wireward/desk"
	"wireward/match"
	"wireward/net"
	"wireward/packet"
	"wireward/ring"
	"wireward/verdict"
	"wireward/world"
)

// A model of a desk, written apart: it reads lines by patterns, and has of a
// world the events that were, which it does again from the beginning on.
type model struct {
	text   string
	open   bool
	net    api.Net
	events []api.Event
}

// pattern is that of a line, in which N, P and W stand for a number, a packet
// and any word.
func pattern(s string) *regexp.Regexp {
	s = strings.ReplaceAll(s, " ", " +")
	s = strings.ReplaceAll(s, "N", `([0-9]|[1-9][0-9])`)
	s = strings.ReplaceAll(s, "P", `((?:[0-9]|1[0-5]):[0-7]>(?:[0-9]|1[0-5]):[0-7])`)
	s = strings.ReplaceAll(s, "W", `([^ ]+)`)
	return regexp.MustCompile(`^ *` + s + ` *$`)
}

var (
	skipped = regexp.MustCompile(`^ *(#.*)?$`)
	blanks  = regexp.MustCompile(` +`)

	netLine    = pattern(`net (W.*)`)
	clearLine  = pattern(`clear`)
	showLine   = pattern(`show`)
	askLine    = pattern(`ask W (W W W W)`)
	ringsLine  = pattern(`rings`)
	worldLine  = pattern(`world`)
	injectLine = pattern(`inject N P`)
	hopLine    = pattern(`hop N N P N`)
	forgetLine = pattern(`forget N P N`)
	seenLine   = pattern(`seen`)
)

func joined(s string) string { return blanks.ReplaceAllString(strings.Trim(s, " "), " ") }

func number(s string) int {
	n, _ := strconv.Atoi(s)
	return n
}

func packetOf(s string) api.Packet {
	p, _ := packet.Parse(s)
	return p
}

func failure(e api.Errno) string { return fmt.Sprintf("error %d\n", e) }

func (m *model) run(text string) string {
	l := strings.SplitAfter(text, "\n")
	if l[len(l)-1] == "" {
		l = l[:len(l)-1]
	}
	if len(text) > 65536 || len(l) > 200 {
		return "error 2\n"
	}
	out := ""
	for _, line := range l {
		if line = strings.TrimSuffix(line, "\n"); !skipped.MatchString(line) {
			out += m.line(line)
		}
	}
	return out
}

func (m *model) line(line string) string {
	if x := netLine.FindStringSubmatch(line); x != nil {
		if more := joined(x[1]) + "\n"; len(m.text)+len(more) <= 4096 {
			m.text += more
			return "ok\n"
		}
		return "error 2\n"
	}
	if clearLine.MatchString(line) {
		m.text = ""
		return "ok\n"
	}
	if x := askLine.FindStringSubmatch(line); x != nil {
		which, e := match.Parse(joined(x[2]))
		if e != api.OK {
			return "error 3\n"
		}
		return m.ask(x[1], which)
	}
	if x := injectLine.FindStringSubmatch(line); x != nil {
		return m.event(api.Event{Kind: api.EInject, Device: number(x[1]), Packet: packetOf(x[2])})
	}
	if x := hopLine.FindStringSubmatch(line); x != nil {
		return m.event(api.Event{Kind: api.EHop, Device: number(x[1]), Port: number(x[2]), Packet: packetOf(x[3]), Choice: number(x[4])})
	}
	if x := forgetLine.FindStringSubmatch(line); x != nil {
		return m.event(api.Event{Kind: api.EExpire, Device: number(x[1]), Packet: packetOf(x[2]), Choice: number(x[3])})
	}
	if seenLine.MatchString(line) {
		return m.seen()
	}
	if showLine.MatchString(line) || ringsLine.MatchString(line) || worldLine.MatchString(line) {
		return m.ofNet(strings.Trim(line, " "))
	}
	return "error 3\n"
}

func (m *model) ask(host string, which api.Match) string {
	n, at, e := net.Parse(m.text)
	if e != api.OK {
		return fmt.Sprintf("error %d %d\n", e, at)
	}
	v, e := verdict.Ask(n, host, which, 40000)
	switch {
	case e != api.OK:
		return failure(e)
	case !v.Reached:
		return "isolated\n"
	}
	p := v.Packet
	return fmt.Sprintf("reached %d:%d>%d:%d\n", p.Src, p.Sport, p.Dst, p.Dport)
}

func (m *model) ofNet(command string) string {
	n, at, e := net.Parse(m.text)
	if e != api.OK {
		return fmt.Sprintf("error %d %d\n", e, at)
	}
	switch command {
	case "show":
		s, _ := net.Print(n)
		return s + "ok\n"
	case "world":
		m.open, m.net, m.events = true, n, nil
		return "ok\n"
	}
	l, e := ring.All(n, 40000)
	if e != api.OK {
		return failure(e)
	}
	if len(l) == 0 {
		return "none\n"
	}
	return strings.Trim(fmt.Sprint(l), "[]") + "\n"
}

func (m *model) seen() string {
	if !m.open {
		return "error 7\n"
	}
	_, n, _ := world.Run(m.net, m.events)
	return fmt.Sprintln(n)
}

func (m *model) event(x api.Event) string {
	if !m.open {
		return "error 7\n"
	}
	_, before, _ := world.Run(m.net, m.events)
	events := append(m.events[:len(m.events):len(m.events)], x)
	seen, after, e := world.Run(m.net, events)
	if e != api.OK {
		return failure(e)
	}
	m.events = events
	if x.Kind != api.EHop || after == before {
		return "ok\n"
	}
	last := seen[len(seen)-1]
	p := last.Packet
	return fmt.Sprintf("%d %d %d:%d>%d:%d\n", last.Place.Device, last.Place.Port, p.Src, p.Sport, p.Dst, p.Dport)
}

func pick(r *rand.Rand, l ...string) string { return l[r.Intn(len(l))] }

// anyLine is one that a desk may be told, about nets as those of the tests.
func anyLine(r *rand.Rand) string {
	device := func() string { return pick(r, "0", "1", "1", "1", "2", "3") }
	p := func() string {
		return pick(r, "1:0>2:0", "2:0>1:0", "1:0>5:0", "6:0>1:0", "9:3>2:0", "2:0>9:3", "1:2>2:4")
	}
	choice := func() string { return pick(r, "0", "1", "3", "3", "9") }
	set := func() string { return pick(r, "*", "*", "1", "2,6", "0-7", "-") }
	switch r.Intn(16) {
	case 0:
		return "clear"
	case 1:
		return "show"
	case 2, 3:
		return "ask " + pick(r, "a", "b", "b", "f", "x") + " " + set() + " " + set() + " " + set() + " " + set()
	case 4:
		return "rings"
	case 5:
		return "world"
	case 6, 7, 8:
		return "inject " + pick(r, "0", "2", "0 1:0>2:0", "2 2:0>1:0", "1 1:0>2:0", "0 "+p(), "2 "+p())
	case 9, 10, 11:
		return "hop " + device() + " " + pick(r, "0", "0", "1") + " " + p() + " " + choice()
	case 12:
		return "forget " + device() + " " + p() + " " + choice()
	case 13:
		return "seen"
	case 14:
		return "net " + pick(r, "host z 3", "x", "router z", "permit * * * *", "link a 0 b 0", "host a 1")
	}
	return pick(r, "", "#", "# clear", "  ", "quit", "net", "hop", "seen now")
}

// spoilt is a line in which a byte is another one, or there are more blanks.
func spoilt(r *rand.Rand, line string) string {
	if line == "" {
		return " "
	}
	i := r.Intn(len(line))
	switch r.Intn(6) {
	case 0:
		return line[:i] + line[i+1:]
	case 1:
		return line[:i] + pick(r, "0", "1", "*", "-", "#", "\t", ">", "\xff", "9", "é") + line[i:]
	}
	return "  " + strings.ReplaceAll(line, " ", "   ") + " "
}

func anyScript(r *rand.Rand) string {
	var l []string
	for range 1 + r.Intn(3) {
		l = append(l, strings.TrimSuffix(typed(pick(r, fireNet, natNet, lbNet, ringNet, "")), "\n"), "world")
		for range r.Intn(40) {
			line := anyLine(r)
			if r.Intn(10) == 0 {
				line = spoilt(r, line)
			}
			l = append(l, line)
		}
		l = append(l, "clear")
	}
	return strings.Join(l, "\n") + pick(r, "", "\n", "\n ", "\n\n")
}

// P25: any scripts are answered as the model answers them; all there is to
// answer comes in them.
func TestAnyScripts(t *testing.T) {
	r := rand.New(rand.NewSource(25))
	answers := map[string]int{}
	digits := regexp.MustCompile(`[0-9]+`)
	for range 3000 {
		script := anyScript(r)
		want := new(model).run(script)
		if got := desk.Run(script); got != want {
			t.Fatalf("%q: %q, not %q", script, got, want)
		}
		for _, line := range strings.Split(want, "\n") {
			if !strings.HasPrefix(line, "error") || strings.Count(line, " ") == 2 {
				line = digits.ReplaceAllString(line, "n")
			}
			answers[line]++
		}
	}
	for _, kind := range []string{
		"ok", "isolated", "reached n:n>n:n", "none", "n", "n n n:n>n:n", "n n n n n n n n n",
		"error 1", "error 3", "error 4", "error 7", "error n n",
	} {
		if answers[kind] < 20 {
			t.Errorf("%q came %d times", kind, answers[kind])
		}
	}
}

// P1, P25: whatever a text is, it is answered, and as the model does it.
func FuzzRun(f *testing.F) {
	r := rand.New(rand.NewSource(1))
	for _, s := range []string{"", "\n", "clear", "# x\n\n", "rings", "net", "net +", strings.Repeat("\n", 201)} {
		f.Add(s)
	}
	for range 20 {
		f.Add(anyScript(r))
	}
	f.Fuzz(func(t *testing.T, s string) {
		if got, want := desk.Run(s), new(model).run(s); got != want {
			t.Fatalf("%q: %q, not %q", s, got, want)
		}
	})
}
