package desk_test

import (
	"strings"
	"testing"

	"wireward/api"
	"wireward/desk"
	"wireward/match"
	"wireward/net"
	"wireward/verdict"
)

// oks is so many answers that are ok.
func oks(n int) string { return strings.Repeat("ok\n", n) }

// behind is what is answered to a script behind the lines of a net's text.
func behind(t *testing.T, text, script string) string {
	t.Helper()
	ahead := oks(strings.Count(text, "\n"))
	got, ok := strings.CutPrefix(desk.Run(typed(text)+script), ahead)
	if !ok {
		t.Fatalf("%q: %q", text, got)
	}
	return got
}

// isBehind holds what is answered behind a net's text against what it should
// be.
func isBehind(t *testing.T, text, script, want string) {
	t.Helper()
	if got := behind(t, text, script); got != want {
		t.Errorf("%q, %q: %q, not %q", text, script, got, want)
	}
}

// P25: show tells net.Print's lines, whatever way the net was told.
func TestShow(t *testing.T) {
	is(t, "show", "ok\n")
	for _, text := range []string{fireNet, natNet, lbNet, ringNet, "host a 0\n"} {
		isBehind(t, text, "show\nshow", strings.Repeat(text+"ok\n", 2))
	}
	isBehind(t, "nat n 9 3,0\nrouter r\nroute 8/1 2\npermit 2,1 * 0-15 *\n", "show",
		"nat n 9 0,3\nrouter r\npermit 1-2 * * *\nroute 8/1 2\nok\n")
}

// P25: net and clear change the text alone, and look at nothing.
func TestNetAndClear(t *testing.T) {
	is(t, "net a\nnet b c\nclear\nshow\nnet host a 1\nshow\nclear\nclear\nshow", oks(4)+"ok\nhost a 1\nok\n"+oks(3))
	is(t, "net net\nnet clear\nshow", "ok\nok\nerror 3 1\n")
	is(t, "net host a 1\nclear x\nshow", "ok\nerror 3\nhost a 1\nok\n")
	is(t, "net host a 1\nnet\nshow", "ok\nerror 3\nhost a 1\nok\n")
}

// P25: the net's text has at most 4096 bytes, its bytes 10 included; a line
// that has no room leaves it as it was.
func TestRoomOfText(t *testing.T) {
	word := func(n int) string { return strings.Repeat("x", n) }
	is(t, "net "+word(4095), "ok\n")
	is(t, "net "+word(4096), "error 2\n")
	is(t, "net "+word(60000), "error 2\n")
	is(t, "net "+word(2000)+" "+word(2094), "ok\n")
	is(t, "net "+word(2000)+"      "+word(2094), "ok\n")
	is(t, "net "+word(2000)+" "+word(2095), "error 2\n")
	is(t, "net host a 1\nnet "+word(4086), oks(2))
	is(t, "net host a 1\nnet "+word(4087), "ok\nerror 2\n")
	is(t, "net host a 1\nnet "+word(4087)+"\nshow", "ok\nerror 2\nhost a 1\nok\n")
	is(t, "net host a 1\nnet "+word(4087)+"\nnet host b 2\nshow", "ok\nerror 2\nok\nhost a 1\nhost b 2\nok\n")
	is(t, "net "+word(4093)+"\nnet x\nnet x\nclear\nnet x\nshow", "ok\nok\nerror 2\nok\nok\nerror 3 1\n")
	is(t, "net "+word(4095)+"\nnet x\nclear\nnet "+word(4095), "ok\nerror 2\nok\nok\n")
}

// P25: ask tells verdict.Print up to the comma.
func TestAsk(t *testing.T) {
	isBehind(t, fireNet, "ask b * * * *\nask a 2 * * *\nask a 3 * * *\nask a 1 * * *",
		"reached 1:0>2:0\nreached 2:0>1:0\nisolated\nisolated\n")
	isBehind(t, natNet, "ask b * * * *\nask b 1 * * *\nask b 9 3 * 5\nask a * * * 6",
		"reached 9:0>0:0\nisolated\nreached 9:3>0:5\nreached 2:0>1:6\n")
	isBehind(t, lbNet, "ask b * * 7 *\nask b * * 5 *\nask a 5 * 1 *", "reached 1:0>7:0\nisolated\nreached 5:0>1:0\n")
	// No such host: another device, a name of none, one that no host may have.
	isBehind(t, fireNet, "ask f * * * *\nask c * * * *\nask A * * * *\nask * * * * *\nask \xff * * * *", strings.Repeat("error 4\n", 5))
	// A host's name may be any word.
	isBehind(t, "host ask 1\nhost 0 2\nlink ask 0 0 0\n", "ask ask * * * *\nask 0 * * * *", "reached 2:0>0:0\nreached 1:0>0:0\n")
	// As verdict.Ask has it, with MaxNodes nodes (room_test.go has greater nets).
	for _, text := range []string{fireNet, natNet, lbNet} {
		n, _, _ := net.Parse(text)
		v, e := verdict.Ask(n, "b", match.All(), api.MaxNodes)
		if e != api.OK {
			t.Fatal(text, e)
		}
		want, _, _ := strings.Cut(verdict.Print(v), ",")
		isBehind(t, text, "ask b * * * *", want+"\n")
	}
}

// P25: rings tells the numbers of ring.All, or none.
func TestRings(t *testing.T) {
	is(t, "rings", "none\n")
	is(t, "net host a 1\nclear\nrings", "ok\nok\nnone\n")
	isBehind(t, "host a 1\n", "rings", "0\n")
	isBehind(t, "router a\n", "rings", "0 0 0 0\n")
	isBehind(t, ringNet, "rings", "512 512 512 512 512 512 512 512 0\n")
	isBehind(t, "router a\npermit * * * *\nroute 0/0 0\nlink a 0 a 1\n", "rings", "16384 16384 16384 16384\n")
	for _, text := range []string{fireNet, natNet, lbNet} {
		isBehind(t, text, "rings", "error 1\n")
	}
}

// P25: events in a world, of each kind, with what they answer.
func TestEvents(t *testing.T) {
	for _, c := range []struct{ text, line, want string }{
		{fireNet, "inject 0 1:0>2:0", "ok"},
		{fireNet, "inject 0 1:0>2:0\ninject 0 1:0>2:0", "ok|ok"},
		{fireNet, "inject 3 1:0>2:0", "error 4"},
		{fireNet, "inject 99 1:0>2:0", "error 4"},
		{fireNet, "inject 1 1:0>2:0", "error 1"},
		{fireNet, "inject 0 2:0>2:0", "error 1"},
		{"host a 1\n", "inject 0 1:0>2:0", "error 7"},
		{fireNet, "hop 1 0 1:0>2:0 0", "error 7"},
		{fireNet, "hop 99 99 1:0>2:0 99", "error 7"},
		{fireNet, "inject 0 1:0>2:0\nhop 1 0 1:0>2:0 99\nhop 1 0 1:0>2:0 0", "ok|2 0 1:0>2:0|ok"},
		{fireNet, "inject 0 1:0>3:0\nhop 1 0 1:0>3:0 0", "ok|error 7"},
		{fireNet, "inject 0 1:0>2:0\nhop 1 1 1:0>2:0 0", "ok|error 7"},
		{fireNet, "inject 0 1:0>2:0\nhop 1 0 1:0>2:0 0\nhop 2 0 1:0>2:0 0", "ok|2 0 1:0>2:0|error 7"},
		{fireNet, "forget 1 1:0>2:0 0", "error 7"},
		{fireNet, "forget 0 1:0>2:0 0", "error 4"},
		{fireNet, "forget 3 1:0>2:0 0", "error 4"},
		{fireNet, "inject 0 1:0>2:0\nhop 1 0 1:0>2:0 0\nforget 1 1:0>2:0 99\nforget 1 1:0>2:0 0", "ok|2 0 1:0>2:0|ok|error 7"},
		// The packet of a hop is told as it comes in, and a choice is a port's number.
		{natNet, "inject 0 1:2>2:4\nhop 1 0 1:2>2:4 5\nhop 1 0 1:2>2:4 3", "ok|error 1|2 0 9:3>2:4"},
		{natNet, "inject 0 1:2>2:4\ninject 0 1:1>2:4\nhop 1 0 1:2>2:4 3\nhop 1 0 1:1>2:4 3", "ok|ok|2 0 9:3>2:4|error 6"},
		{natNet, "inject 0 1:2>2:4\nhop 1 0 1:2>2:4 3\ninject 2 2:4>9:3\nhop 1 1 2:4>9:3 0", "ok|2 0 9:3>2:4|ok|0 0 2:4>1:2"},
		// What is forgotten of this one goes by the choice, not by the packet.
		{natNet, "inject 0 1:2>2:4\nhop 1 0 1:2>2:4 3\nforget 1 1:2>2:4 0\nforget 1 0:0>0:0 3\nhop 1 0 1:2>2:4 0", "ok|2 0 9:3>2:4|error 7|ok|2 0 9:0>2:4"},
		// Another arrival that isn't new by another way: it is told but once.
		{natNet, "inject 0 1:2>2:4\ninject 0 1:1>2:4\nhop 1 0 1:2>2:4 3\nforget 1 0:0>0:0 3\nhop 1 0 1:1>2:4 3\nseen", "ok|ok|2 0 9:3>2:4|ok|ok|3"},
		// A choice is a back's place in the list.
		{lbNet, "inject 0 1:2>5:4\nhop 1 0 1:2>5:4 2\nhop 1 0 1:2>5:4 1\nhop 1 0 1:2>5:4 0", "ok|error 1|2 0 1:2>7:4|ok"},
		{lbNet, "inject 0 1:2>5:4\nhop 1 0 1:2>5:4 1\nforget 1 1:2>5:4 9\nhop 1 0 1:2>5:4 0\nseen", "ok|2 0 1:2>7:4|ok|2 0 1:2>6:4|3"},
	} {
		want := strings.ReplaceAll(c.want, "|", "\n") + "\n"
		isBehind(t, c.text, "world\n"+c.line, "ok\n"+want)
	}
}

// P25: seen is how many arrivals there were, each once.
func TestSeen(t *testing.T) {
	isBehind(t, fireNet, "world\nseen\ninject 0 1:0>2:0\nseen\ninject 0 1:0>2:0\nseen\nhop 1 0 1:0>2:0 0\nhop 1 0 1:0>2:0 0\nseen\ninject 1 1:0>2:0\nforget 1 1:0>2:0 0\nseen",
		"ok\n0\nok\n1\nok\n1\n2 0 1:0>2:0\nok\n2\nerror 1\nok\n2\n")
	is(t, "world\nseen\ninject 0 1:0>2:0\nhop 0 0 1:0>2:0 0\nforget 0 1:0>2:0 0", "ok\n0\nerror 4\nerror 7\nerror 4\n")
}

// P25: a world is of the net as it was, and stays until there is another one.
func TestWorldStays(t *testing.T) {
	some := "world\ninject 0 1:0>2:0\n"
	hop := "hop 1 0 1:0>2:0 0\nseen\n"
	gone := "2 0 1:0>2:0\n2\n"
	isBehind(t, fireNet, some+"clear\n"+hop, oks(3)+gone)
	isBehind(t, fireNet, some+"net x\n"+hop, oks(3)+gone)
	isBehind(t, fireNet, some+"clear\nnet host z 1\n"+hop, oks(4)+gone)
	// A world that can't be made leaves the one that there is.
	isBehind(t, fireNet, some+"net x\nworld\n"+hop, oks(3)+"error 3 7\n"+gone)
	isBehind(t, fireNet, some+"net link a 0 b 0\nworld\n"+hop, oks(3)+"error 5 0\n"+gone)
	isBehind(t, fireNet, some+"world x\n"+hop, oks(2)+"error 3\n"+gone)
	// A new one has nothing of it, and knows nothing of it.
	isBehind(t, fireNet, some+"world\nseen\n"+hop, oks(3)+"0\nerror 7\n0\n")
	isBehind(t, fireNet, some+hop+"world\ninject 2 2:0>1:0\nhop 1 1 2:0>1:0 0\nforget 1 1:0>2:0 0", oks(2)+gone+oks(2)+"error 7\nerror 7\n")
	isBehind(t, fireNet, some+"clear\nworld\nseen\n"+hop, oks(4)+"0\nerror 7\n0\n")
	// What else is asked leaves it as it is.
	isBehind(t, fireNet, some+"ask b * * * *\nrings\n"+hop, oks(2)+"reached 1:0>2:0\nerror 1\n"+gone)
}
