package desk_test

import (
	"strconv"
	"strings"
	"testing"

	"wireward/desk"
)

// lines is a text of lines, each with a byte 10 behind it.
func lines(l ...string) string {
	var b strings.Builder
	for _, line := range l {
		b.WriteString(line + "\n")
	}
	return b.String()
}

// is holds what a script is answered against what it should be.
func is(t *testing.T, script, want string) {
	t.Helper()
	if got := desk.Run(script); got != want {
		t.Errorf("%q: %q, not %q", script, got, want)
	}
}

// last is the answer to the last line of a script, which has one line.
func last(t *testing.T, script string) string {
	t.Helper()
	l := strings.Split(desk.Run(script), "\n")
	if len(l) < 2 || l[len(l)-1] != "" {
		t.Fatalf("%q: %q", script, l)
	}
	return l[len(l)-2]
}

// typed is a net's text as it is typed at the desk.
func typed(text string) string {
	var b strings.Builder
	for _, line := range strings.SplitAfter(text, "\n") {
		if line != "" {
			b.WriteString("net " + line)
		}
	}
	return b.String()
}

// Nets of which the tests speak.
const (
	fireNet = "host a 1\nfire f\npermit * * 2 *\nhost b 2\nlink a 0 f 0\nlink f 1 b 0\n"
	natNet  = "host a 1\nnat n 9 0,3\nhost b 2\nlink a 0 n 0\nlink n 1 b 0\n"
	lbNet   = "host a 1\nlb l 5 6,7\nhost b 6\nlink a 0 l 0\nlink l 1 b 0\n"
	ringNet = "router a\npermit * * * *\nroute 8/1 0\nrouter b\npermit 1 * * *\nroute 8/1 0\nhost h 3\nlink a 0 b 0\nlink a 1 h 0\n"
)

// P25: what a line is.
func TestLines(t *testing.T) {
	for script, want := range map[string]string{
		"":                        "",
		"\n":                      "",
		"\n\n\n":                  "",
		"clear":                   "ok\n",
		"clear\n":                 "ok\n",
		"clear\nclear":            "ok\nok\n",
		"clear\n\nclear\n\n":      "ok\nok\n",
		"\nclear":                 "ok\n",
		" ":                       "",
		"   \n  \nclear\n    ":    "ok\n",
		"#":                       "",
		"# clear":                 "",
		"#clear\nclear":           "ok\n",
		"   # clear\n  #\n ##":    "",
		"clear # x":               "error 3\n",
		"clear#":                  "error 3\n",
		"x# \n#x":                 "error 3\n",
		"clear\r\n":               "error 3\n",
		"\r\n":                    "error 3\n",
		"\t\n":                    "error 3\n",
		"\t#\n":                   "error 3\n",
		"\x00":                    "error 3\n",
		"\xff\xfe\n\xc2":          "error 3\nerror 3\n",
		"\u00a0\n\u2003\n\v\n\f":  "error 3\nerror 3\nerror 3\nerror 3\n",
		"# no\nclear\n#\n\nclear": "ok\nok\n",
	} {
		is(t, script, want)
	}
}

// P25: words are what stands between blanks, and between nothing else.
func TestWords(t *testing.T) {
	for script, want := range map[string]string{
		"  clear  ":                          "ok\n",
		"clear ":                             "ok\n",
		" clear":                             "ok\n",
		"net host a 1\nshow":                 "ok\nhost a 1\nok\n",
		"   net   host  a     1   \n  show ": "ok\nhost a 1\nok\n",
		"net\thost a 1":                      "error 3\n",
		"net host\ta 1\nshow":                "ok\nerror 3 1\n",
		"net host a 1\r\nshow":               "ok\nerror 3 1\n",
		"net host a\u00a01\nshow":            "ok\nerror 3 1\n",
		"net host a 1 # b\nshow":             "ok\nerror 3 1\n",
		"net # b\nshow":                      "ok\nerror 3 1\n",
		"net +\nnet \xff\nshow":              "ok\nok\nerror 3 1\n",
	} {
		is(t, script, want)
	}
	is(t, typed(fireNet)+"ask   b  *  *   *  * ", lines("ok", "ok", "ok", "ok", "ok", "ok", "reached 1:0>2:0"))
	is(t, typed(fireNet)+"ask b *\t* * *", lines("ok", "ok", "ok", "ok", "ok", "ok", "error 3"))
	is(t, "net host a 1\nworld\ninject  0   1:0>1:0 ", lines("ok", "ok", "error 7"))
}

// P25: the first word is one of the ten, to the byte.
func TestUnknownWords(t *testing.T) {
	for _, word := range []string{
		"Net", "nets", "ne", "CLEAR", "clear.", "Show", "asks", "ring", "worlds", "injects", "Hop", "expire", "see", "quit", "help",
		"ok", "0", "-", "*", "net,", "\"net\"", "differ", "print", "walk", "all", "slice",
	} {
		for _, rest := range []string{"", " a", " 0 1:0>2:0", " b * * * *", " 0 0 1:0>2:0 0"} {
			if got := last(t, typed(fireNet)+"world\n"+word+rest); got != "error 3" {
				t.Errorf("%q: %q", word+rest, got)
			}
		}
	}
}

// P25: a line with too many words, or too few, is error 3, with a world and
// without one, with a net and without one.
func TestHowManyWords(t *testing.T) {
	full := []string{"net x", "clear", "show", "ask b * * * *", "rings", "world", "inject 0 1:0>2:0", "hop 1 0 1:0>2:0 0", "forget 1 1:0>2:0 0", "seen"}
	for _, ahead := range []string{"", typed(fireNet), typed(fireNet) + "world\n", "net x\n"} {
		for _, line := range full {
			words := strings.Split(line, " ")
			for n := 1; n < len(words); n++ {
				if got := last(t, ahead+strings.Join(words[:n], " ")); got != "error 3" {
					t.Errorf("%q: %q", words[:n], got)
				}
			}
			if words[0] == "net" {
				continue
			}
			for _, more := range []string{" 0", " *", " x", " 1:0>2:0", " #", " 0 0"} {
				if got := last(t, ahead+line+more); got != "error 3" {
					t.Errorf("%q: %q", line+more, got)
				}
			}
		}
	}
}

// P25: an N is a number from 0 to 99 without noughts ahead, in each place.
func TestNumbers(t *testing.T) {
	shapes := []string{"inject N 1:0>2:0", "hop N 0 1:0>2:0 0", "hop 1 N 1:0>2:0 0", "hop 1 0 1:0>2:0 N", "forget N 1:0>2:0 0", "forget 1 1:0>2:0 N"}
	for _, shape := range shapes {
		line := func(n string) string {
			return strings.Replace(shape, "N", n, 1)
		}
		for _, ahead := range []string{"", typed(fireNet) + "world\n"} {
			for _, n := range []string{"00", "01", "007", "100", "101", "0100", "999", "1000", "9999", "10000", "4294967296", "18446744073709551616", "-1", "-0", "+1", "1.0", "0x1", "1e1", "a", "*", "-", "1,2", "0-1", "1:0>2:0", "\u0661", "1\x00"} {
				if got := last(t, ahead+line(n)); got != "error 3" {
					t.Errorf("%q: %q", line(n), got)
				}
			}
			for n := range 100 {
				got := last(t, ahead+line(strconv.Itoa(n)))
				if got == "error 3" || ahead == "" && got != "error 7" {
					t.Errorf("%q: %q", line(strconv.Itoa(n)), got)
				}
			}
		}
	}
}

// P25: a P is a packet's text.
func TestPackets(t *testing.T) {
	for _, shape := range []string{"inject 0 ", "hop 1 0 ", "forget 1 "} {
		behind := " 0"
		if shape == "inject 0 " {
			behind = ""
		}
		for _, ahead := range []string{"", typed(fireNet) + "world\n"} {
			for _, p := range []string{"1:0>16:0", "16:0>1:0", "1:8>2:0", "1:0>2:8", "01:0>2:0", "1:0>2:00", "1:0>2", "1>2", "1:0<2:0", "1:0>2:0>", "1:0>2:0,", "1236", "*", "-", ":>:", "-1:0>2:0"} {
				if got := last(t, ahead+shape+p+behind); got != "error 3" {
					t.Errorf("%q: %q", shape+p+behind, got)
				}
			}
			for _, p := range []string{"0:0>0:0", "15:7>15:7", "1:0>2:0"} {
				got := last(t, ahead+shape+p+behind)
				if got == "error 3" || ahead == "" && got != "error 7" {
					t.Errorf("%q: %q", shape+p+behind, got)
				}
			}
		}
	}
}

// P25: an M is four words that match.Parse takes; whatever else it answers of
// them, a text that is too long included, is error 3.
func TestMatches(t *testing.T) {
	for m, want := range map[string]string{
		"* * * *":                                "reached 1:0>2:0",
		"1 0-7 2 3,5-7":                          "reached 1:0>2:3",
		"0,1,2-3,1 7,6,7 15,0-15 4-4":            "reached 1:6>2:4",
		"- * * *":                                "isolated",
		"* - * *":                                "isolated",
		"* * - *":                                "isolated",
		"* * * -":                                "isolated",
		"2 * * *":                                "isolated",
		"16 * * *":                               "error 3",
		"* 8 * *":                                "error 3",
		"* * 16 *":                               "error 3",
		"* * * 8":                                "error 3",
		"3-1 * * *":                              "error 3",
		"* * * ,":                                "error 3",
		"01 * * *":                               "error 3",
		"** * * *":                               "error 3",
		"permit * * *":                           "error 3",
		strings.Repeat("9", 300):                 "error 3",
		"1" + strings.Repeat(" ", 400) + "* * *": "reached 1:0>2:0", // joined by one blank
	} {
		if got := last(t, typed(fireNet)+"ask b "+m); got != want {
			t.Errorf("%q: %q, not %q", m, got, want)
		}
	}
}

// P25: match.Parse takes at most 300 bytes of a match, with one blank between
// its words; that it says ErrLarge of more is error 3 all the same.
func TestLongMatches(t *testing.T) {
	most := "10" + strings.Repeat(",0", 146) + " * * *" // 300 bytes
	more := "0" + strings.Repeat(",0", 147) + " * * *"  // 301 bytes
	if len(most) != 300 || len(more) != 301 {
		t.Fatal(len(most), len(more))
	}
	for m, want := range map[string]string{
		most: "isolated",
		strings.Replace(most, " ", strings.Repeat(" ", 400), 1): "isolated",
		more:                                   "error 3",
		"* * * 0" + strings.Repeat(",0", 5000): "error 3",
	} {
		if got := last(t, typed(fireNet)+"ask b "+m); got != want {
			t.Errorf("%d bytes: %q, not %q", len(m), got, want)
		}
	}
}

// P25: the errors in their order: a line that can't be read, then one without a
// world, then those of the calls.
func TestOrderOfErrors(t *testing.T) {
	for script, want := range map[string]string{
		// 3 ahead of 7
		"seen x":               "error 3",
		"inject 0 x":           "error 3",
		"inject x 1:0>2:0":     "error 3",
		"hop 0 0 1:0>2:0":      "error 3",
		"hop 0 0 1:0>2:0 100":  "error 3",
		"forget 0 1:0>2:0 x":   "error 3",
		"seen":                 "error 7",
		"inject 99 1:0>2:0":    "error 7",
		"hop 99 99 1:0>2:0 99": "error 7",
		"forget 99 1:0>2:0 99": "error 7",
		// 3 ahead of net.Parse
		"net x\nask a * * * 8":               "error 3",
		"net x\nask a * * *":                 "error 3",
		"net x\nshow x":                      "error 3",
		"net x\nrings x":                     "error 3",
		"net x\nworld x":                     "error 3",
		"net host a 1\nnet x\nshow":          "error 3 2",
		"net host a 1\nnet x\nrings":         "error 3 2",
		"net host a 1\nnet x\nworld":         "error 3 2",
		"net host a 1\nnet x\nask a * * * *": "error 3 2",
		// net.Parse ahead of the second call
		"net x\nask a * * * *":                  "error 3 1",
		"net fire f\nnet fire f\nrings":         "error 5 0",
		"net fire f\nnet fire f\nask f * * * *": "error 5 0",
		"net fire f\nrings":                     "error 1",
		"net fire f\nask f * * * *":             "error 4",
		"net host a 1\nask b * * * *":           "error 4",
		"ask a * * * *":                         "error 4",
		// 7 without a look at the net's text
		"net x\nseen":             "error 7",
		"net x\ninject 0 1:0>2:0": "error 7",
	} {
		if got := last(t, script); got != want {
			t.Errorf("%q: %q, not %q", script, got, want)
		}
	}
}

// P25: net.Parse's errors are told with the line, or with 0; the four commands
// that need a net tell them alike.
func TestNetErrors(t *testing.T) {
	for text, want := range map[string]string{
		"x\n":                                "error 3 1",
		"host a 1\nhost b 2\nlink a 0 c 0\n": "error 3 3",
		"host a 1\nhost b 2\nlink a 0 b 0\nhost c 1\n": "error 3 4",
		"host a 100\n":                                   "error 3 1",
		"host a 16\n":                                    "error 1 0",
		"host a 1\nhost a 2\n":                           "error 5 0",
		"host a 1\nhost b 2\nlink a 0 b 1\n":             "error 1 0",
		"host a 1\nhost b 2\nlink a 0 a 0\n":             "error 5 0",
		"lb l 1 2,3,4,5\n":                               "error 2 0",
		"fire f\n" + strings.Repeat("deny * * * *\n", 9): "error 2 0",
		strings.Repeat("fire f\n", 11):                   "error 2 0",
	} {
		for _, command := range []string{"show", "ask a * * * *", "rings", "world"} {
			if got := last(t, typed(text)+command); got != want {
				t.Errorf("%q, %q: %q, not %q", text, command, got, want)
			}
		}
		// What can't be read makes no world.
		if got := last(t, typed(text)+"world\nseen"); got != "error 7" {
			t.Errorf("%q: %q", text, got)
		}
	}
}

// P25: more bytes than 65536 are error 2, alone.
func TestManyBytes(t *testing.T) {
	comment := func(n int) string { return "#" + strings.Repeat("x", n-1) }
	is(t, comment(65536), "")
	is(t, comment(65537), "error 2\n")
	is(t, "clear\n"+comment(65530), "ok\n")
	is(t, "clear\n"+comment(65531), "error 2\n")
	is(t, "clear\n"+strings.Repeat(" ", 65530), "ok\n")
	is(t, "clear\n"+strings.Repeat(" ", 65531), "error 2\n")
	is(t, strings.Repeat("\n", 65537), "error 2\n")
	is(t, strings.Repeat("clear\n", 1<<20), "error 2\n")
	is(t, strings.Repeat("\x00", 65536), "error 3\n")
}

// P25: more lines than 200 are error 2, alone; those that aren't answered count.
func TestManyLines(t *testing.T) {
	is(t, strings.Repeat("clear\n", 200), strings.Repeat("ok\n", 200))
	is(t, strings.Repeat("clear\n", 201), "error 2\n")
	is(t, strings.Repeat("clear\n", 200)+"clear", "error 2\n")
	is(t, strings.Repeat("clear\n", 200)+"#", "error 2\n")
	is(t, strings.Repeat("clear\n", 200)+" ", "error 2\n")
	is(t, strings.Repeat("clear\n", 200)+"\n", "error 2\n")
	is(t, strings.Repeat("clear\n", 199)+"clear", strings.Repeat("ok\n", 200))
	is(t, strings.Repeat("\n", 199)+"clear", "ok\n")
	is(t, strings.Repeat("\n", 200), "")
	is(t, strings.Repeat("\n", 200)+"clear", "error 2\n")
	is(t, strings.Repeat("\n", 201), "error 2\n")
	is(t, strings.Repeat("#\n", 201), "error 2\n")
}

// P2: nothing is kept from one script to the next.
func TestNothingIsKept(t *testing.T) {
	script := typed(fireNet) + "world\ninject 0 1:0>2:0\nseen\n"
	want := desk.Run(script)
	is(t, "show\nseen\n", "ok\nerror 7\n")
	is(t, script, want)
}
