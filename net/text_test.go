package net_test

import (
	"math/rand"
	"regexp"
	"slices"
	"strconv"
	"strings"
	"testing"
	"unsafe"

	"wireward/api"
	"wireward/match"
	"wireward/net"
)

// oneText is what Print tells of one().
const oneText = "host a 1\n" +
	"router r\ndeny 1 * * *\npermit * * * *\nroute 8/1 0\nroute 0/0 1\nroute 13/4 3\n" +
	"fire f\npermit 1-3 * 0 -\n" +
	"nat n 9 0,3,7\n" +
	"lb l 5 7,0,15\n" +
	"link a 0 r 0\nlink r 1 f 0\nlink n 1 r 3\nlink l 0 l 1\n"

// Forms of lines, written apart from the program.
const (
	formName   = `([a-z0-9]{1,8})`
	formNumber = `(0|[1-9][0-9]?)`
	formList   = `((?:0|[1-9][0-9]?)(?:,(?:0|[1-9][0-9]?))*)`
)

var (
	formHost   = regexp.MustCompile(`\Ahost ` + formName + ` ` + formNumber + `\z`)
	formRouter = regexp.MustCompile(`\Arouter ` + formName + `\z`)
	formFire   = regexp.MustCompile(`\Afire ` + formName + `\z`)
	formNat    = regexp.MustCompile(`\Anat ` + formName + ` ` + formNumber + ` ([0-7](?:,[0-7])*)\z`)
	formLb     = regexp.MustCompile(`\Alb ` + formName + ` ` + formNumber + ` ` + formList + `\z`)
	formRule   = regexp.MustCompile(`(?s)\A(permit|deny) (.*)\z`)
	formRoute  = regexp.MustCompile(`\Aroute ` + formNumber + `/` + formNumber + ` ` + formNumber + `\z`)
	formLink   = regexp.MustCompile(`\Alink ` + formName + ` ` + formNumber + ` ` + formName + ` ` + formNumber + `\z`)
)

func numbers(words ...string) []int {
	var l []int
	for _, w := range words {
		n, err := strconv.Atoi(w)
		if err != nil {
			panic(err)
		}
		l = append(l, n)
	}
	return l
}

// deviceOf is the device of a line, written apart from the program.
func deviceOf(line string) (api.Device, bool) {
	if m := formHost.FindStringSubmatch(line); m != nil {
		return api.Device{Name: m[1], Kind: api.KHost, Addr: numbers(m[2])[0]}, true
	}
	if m := formRouter.FindStringSubmatch(line); m != nil {
		return api.Device{Name: m[1], Kind: api.KRouter}, true
	}
	if m := formFire.FindStringSubmatch(line); m != nil {
		return api.Device{Name: m[1], Kind: api.KFire}, true
	}
	if m := formNat.FindStringSubmatch(line); m != nil {
		pool := 0
		for _, port := range numbers(strings.Split(m[3], ",")...) {
			if pool&(1<<port) != 0 {
				return api.Device{}, false
			}
			pool += 1 << port
		}
		return api.Device{Name: m[1], Kind: api.KNat, Addr: numbers(m[2])[0], Pool: uint8(pool)}, true
	}
	if m := formLb.FindStringSubmatch(line); m != nil {
		return api.Device{Name: m[1], Kind: api.KBalancer, Addr: numbers(m[2])[0], Backs: numbers(strings.Split(m[3], ",")...)}, true
	}
	return api.Device{}, false
}

// readPart reads a rule's or a route's line into d, written apart from the
// program.
func readPart(d *api.Device, line string) bool {
	if m := formRule.FindStringSubmatch(line); m != nil {
		set, e := match.Parse(m[2])
		d.Rules = append(d.Rules, api.Rule{Permit: m[1] == "permit", Match: set})
		return e == api.OK
	}
	if m := formRoute.FindStringSubmatch(line); m != nil {
		parts := numbers(m[1:]...)
		d.Routes = append(d.Routes, api.Route{Value: parts[0], Bits: parts[1], Port: parts[2]})
		return true
	}
	return false
}

// linkOf is the link of a line, written apart from the program.
func linkOf(devices []api.Device, line string) (api.Link, bool) {
	m := formLink.FindStringSubmatch(line)
	if m == nil {
		return api.Link{}, false
	}
	ends := [2]int{-1, -1}
	for i := len(devices) - 1; i >= 0; i-- {
		for j, name := range []string{m[1], m[3]} {
			if devices[i].Name == name {
				ends[j] = i
			}
		}
	}
	ports := numbers(m[2], m[4])
	return api.Link{A: ends[0], P: ports[0], B: ends[1], Q: ports[1]}, ends[0] >= 0 && ends[1] >= 0
}

// parse is Parse, written apart from the program.
func parse(s string) (api.Net, int, api.Errno) {
	if len(s) > 4096 {
		return api.Net{}, 0, api.ErrLarge
	}
	var n api.Net
	lines := strings.SplitAfter(s, "\n")
	if lines[len(lines)-1] == "" {
		lines = lines[:len(lines)-1]
	}
	for i, line := range lines {
		bare := strings.TrimSuffix(line, "\n")
		ok := bare != line
		if l, isLink := linkOf(n.Devices, bare); isLink {
			n.Links = append(n.Links, l)
		} else if d, isDevice := deviceOf(bare); isDevice {
			ok = ok && len(n.Links) == 0
			n.Devices = append(n.Devices, d)
		} else {
			ok = ok && len(n.Devices) > 0 && len(n.Links) == 0 && readPart(&n.Devices[len(n.Devices)-1], bare)
		}
		if !ok {
			return api.Net{}, i + 1, api.ErrSyntax
		}
	}
	if e := check(n); e != api.OK {
		return api.Net{}, 0, e
	}
	return n, 0, api.OK
}

// reads holds Parse against the model.
func reads(t *testing.T, s string) api.Errno {
	t.Helper()
	want, wantAt, wantError := parse(s)
	n, at, e := net.Parse(s)
	if !same(n, want) || at != wantAt || e != wantError {
		t.Fatalf("%q: %v %d %v, not %v %d %v", s, n, at, e, want, wantAt, wantError)
	}
	return e
}

func refuses(t *testing.T, s string, wantAt int, want api.Errno) {
	t.Helper()
	n, at, e := net.Parse(s)
	if n.Devices != nil || n.Links != nil || at != wantAt || e != want {
		t.Errorf("%.60q: %v %d %v, not %d %v", s, n, at, e, wantAt, want)
	}
}

// P11: a net of each kind, both ways, and the one without devices.
func TestPrintAndParse(t *testing.T) {
	for s, n := range map[string]api.Net{
		oneText: one(),
		"":      {},
		"host 0 0\nhost 12345678 15\nlink 12345678 0 0 0\n": {
			Devices: []api.Device{{Name: "0", Kind: api.KHost}, {Name: "12345678", Kind: api.KHost, Addr: 15}},
			Links:   []api.Link{{A: 1}},
		},
		// Words of lines are names, too.
		"router link\nfire host\npermit - - - -\nnat nat 0 0,1,2,3,4,5,6,7\nlb permit 15 0\nlink link 3 host 1\nlink nat 1 permit 1\n": {
			Devices: []api.Device{
				{Name: "link", Kind: api.KRouter}, {Name: "host", Kind: api.KFire, Rules: []api.Rule{{Permit: true}}},
				{Name: "nat", Kind: api.KNat, Pool: 255}, {Name: "permit", Kind: api.KBalancer, Addr: 15, Backs: []int{0}},
			},
			Links: []api.Link{{A: 0, P: 3, B: 1, Q: 1}, {A: 2, P: 1, B: 3, Q: 1}},
		},
	} {
		if u, e := net.Print(n); u != s || e != api.OK {
			t.Errorf("%q: %q %v", s, u, e)
		}
		if m, at, e := net.Parse(s); !same(m, n) || at != 0 || e != api.OK {
			t.Errorf("%q: %v %d %v", s, m, at, e)
		}
	}
}

// P11: nets of all kinds are read as they were from what is told of them.
func TestPrintIsRead(t *testing.T) {
	r := rand.New(rand.NewSource(5))
	large := 0
	for i := range 5000 {
		n := anyNet(r, i%11)
		s, e := net.Print(n)
		if e != api.OK {
			t.Fatal(n, e)
		}
		if len(s) > 4096 { // Print has no bound, Parse has one
			large++
			refuses(t, s, 0, api.ErrLarge)
			continue
		}
		if m, at, e := net.Parse(s); !same(m, n) || at != 0 || e != api.OK {
			t.Fatalf("%q: %v %d %v", s, m, at, e)
		}
		reads(t, s)
	}
	if large > 2500 {
		t.Error("hardly tried", large)
	}
}

// P11: rules first, then routes, each list in its order; backs in theirs, ports
// rising.
func TestPrintOrder(t *testing.T) {
	rules := []api.Rule{{Permit: true, Match: match.All()}, {Match: match.All()}, {Match: api.Match{Src: 0x15}}}
	routes := []api.Route{{Value: 12, Bits: 2, Port: 3}, {Value: 8, Bits: 1, Port: 2}, {Port: 1}}
	n := api.Net{Devices: []api.Device{
		{Name: "z", Kind: api.KBalancer, Addr: 10, Backs: []int{15, 0, 3}},
		{Name: "b", Kind: api.KRouter, Rules: rules, Routes: routes},
		{Name: "a", Kind: api.KNat, Addr: 10, Pool: 0xa4},
	}}
	const want = "lb z 10 15,0,3\nrouter b\npermit * * * *\ndeny * * * *\ndeny 0,2,4 - - -\n" +
		"route 12/2 3\nroute 8/1 2\nroute 0/0 1\nnat a 10 2,5,7\n"
	if s, e := net.Print(n); s != want || e != api.OK {
		t.Errorf("%q %v", s, e)
	}
}

// P11: Print of a net that Check refuses tells its error, and no text.
func TestPrintWrong(t *testing.T) {
	r := rand.New(rand.NewSource(6))
	told := 0
	for i := range 10000 {
		n := anyNet(r, i%12)
		spoil(r, &n)
		s, e := net.Print(n)
		if want := check(n); e != want || e != api.OK && s != "" {
			t.Fatal(n, s, e, want)
		}
		if e != api.OK {
			told++
		}
	}
	if told < 1000 {
		t.Error("hardly tried", told)
	}
}

// P11: what may stand otherwise than Print has it.
func TestParseOtherwise(t *testing.T) {
	for s, want := range map[string]string{
		"nat n 9 7,3,0\n":     "nat n 9 0,3,7\n",
		"nat n 9 1,0,7,2,6\n": "nat n 9 0,1,2,6,7\n",
		"router r\nroute 0/0 1\npermit * * * *\nroute 8/1 0\ndeny 1 * * *\n": "router r\npermit * * * *\ndeny 1 * * *\nroute 0/0 1\nroute 8/1 0\n",
		"fire f\npermit 3,1-2,2-2 0-7 0-15 5\n":                              "fire f\npermit 1-3 * * 5\n",
		"lb l 1 3,2\n":                                                       "lb l 1 3,2\n", // the order of backs is theirs
	} {
		n, at, e := net.Parse(s)
		if at != 0 || e != api.OK {
			t.Errorf("%q: %d %v", s, at, e)
		}
		if u, e := net.Print(n); u != want || e != api.OK {
			t.Errorf("%q: %q %v", s, u, e)
		}
	}
}

// P11: lines that are none, alone and behind others.
func TestParseWrongLines(t *testing.T) {
	for _, line := range []string{
		"", " ", "x", "host", "host ", "host a", "host a ", "host  1", "host a  1", " host a 1", "host a 1 ", "host a 1 2", "host\ta 1",
		"Host a 1", "hosts a 1", "host A 1", "host a-b 1", "host abcdefghi 1", "host ä 1", "host a 01", "host a 00", "host a -1", "host a +1",
		"host a 100", "host a 1000", "host a 9999", "host a 10000", "host a 18446744073709551617", "host a x", "host a 1\r", "host a 1\x00", "host a 1,2",
		"router", "router ", "router b 1", "router b ", "router  b", "router B", "router \xff", "routers b",
		"fire", "fire ", "fire b 1", "fire b ", "fire abcdefghi", "fire b\x00",
		"nat n", "nat n 3", "nat n 3 ", "nat n  1", "nat n 3 1,", "nat n 3 ,1", "nat n 3 1,,2", "nat n 3 1 2", "nat n 3 1, 2", "nat n 3 -", "nat n 3 *",
		"nat n 3 8", "nat n 3 0,8", "nat n 3 10", "nat n 3 99", "nat n 3 256", "nat n 3 1,1", "nat n 3 0,1,2,0", "nat n 3 01", "nat n 3 1-2", "nat n 100 1",
		"nat N 3 1", "nat 3 1", "nat n 1,2 3 4",
		"lb l", "lb l 3", "lb l 3 ", "lb l 3 1,", "lb l 3 ,", "lb l 3 ,1", "lb l 3 1 2", "lb l 3 1,100", "lb l 100 1", "lb l 3 01", "lb l 3 1-2", "lb l 3 *", "lb L 3 1",
		"permit", "permit ", "permit *", "permit * * *", "permit * * * * *", "permit  * * * *", "permit * * * * ", "permit 16 * * *", "permit * 8 * *",
		"permit 2-1 * * *", "Permit * * * *", "permits * * * *", "allow * * * *", "deny", "deny * * *", "deny * * * x", "deny\t* * * *", "permit * *\x00* *",
		"route", "route 0/0", "route 0/0 ", "route 0 0", "route 0/0/0 0", "route /0 0", "route 0/ 0", "route / 0", "route 0/0 0 0", "route  0/0 0", "route 0/0  0",
		"route 100/0 0", "route 0/100 0", "route 0/0 100", "route 00/0 0", "route 0/00 0", "route 0/0 00", "route -1/0 0", "route 0 /0 0", "route a/0 0",
		"link", "link a 0", "link a 0 a", "link a 0 a ", "link a 0 a 1 ", "link a 0 a 1 0", "link  a 0 a 1", "link a 0  a 1", "link a 0 b 0", "link b 0 a 0", "link a 100 a 0",
		"link a 0 a 100", "link a 00 a 0", "link a 0 a 01", "link a -1 a 0", "link A 0 a 0", "link 0 0 1 0", "link a a 0 0", "link  0  0", "links a 0 a 1",
		"permit * * * " + strings.Repeat("1,", 200) + "1", "host " + strings.Repeat("a", 3000) + " 1", strings.Repeat(" ", 3000), "\xff\xfe", "#", "# host a 1",
	} {
		refuses(t, line+"\n", 1, api.ErrSyntax)
		refuses(t, line+"\nhost z 1\n", 1, api.ErrSyntax)
		refuses(t, "host a 1\n"+line+"\n", 2, api.ErrSyntax)
		refuses(t, "router a\n"+line+"\nx\n", 2, api.ErrSyntax)
		refuses(t, "host c 1\nrouter a\nlink c 0 a 0\n"+line+"\n", 4, api.ErrSyntax)
		reads(t, "router a\n"+line+"\n")
	}
}

// P11: each line has a byte 10 behind it, the last one, too; no other byte ends
// one.
func TestParseEnds(t *testing.T) {
	refuses(t, "host a 1", 1, api.ErrSyntax)
	refuses(t, "\n", 1, api.ErrSyntax)
	refuses(t, "\n\n", 1, api.ErrSyntax)
	refuses(t, "host a 1\n\n", 2, api.ErrSyntax)
	refuses(t, "\nhost a 1\n", 1, api.ErrSyntax)
	refuses(t, "host a 1\n\nhost b 1\n", 2, api.ErrSyntax)
	refuses(t, "host a 1\r\n", 1, api.ErrSyntax)
	refuses(t, "host a 1\rhost b 1\n", 1, api.ErrSyntax)
	refuses(t, "host a 1\nhost b 1", 2, api.ErrSyntax)
	refuses(t, strings.TrimSuffix(oneText, "\n"), strings.Count(oneText, "\n"), api.ErrSyntax)
}

// P11: where a line may stand.
func TestParsePlaces(t *testing.T) {
	const linked = "router a\nrouter b\nlink a 0 b 0\n"
	for _, line := range []string{"host c 1", "router c", "fire c", "nat c 1 1", "lb c 1 2", "permit * * * *", "deny * * * *", "route 0/0 0"} {
		refuses(t, linked+line+"\n", 4, api.ErrSyntax)
		refuses(t, linked+"link a 1 b 1\n"+line+"\n", 5, api.ErrSyntax)
	}
	for _, line := range []string{"permit * * * *", "deny * * * *", "route 0/0 0", "link a 0 b 0", "link a 0 a 0"} {
		refuses(t, line+"\n", 1, api.ErrSyntax)
		refuses(t, line+"\n"+linked, 1, api.ErrSyntax)
	}
	refuses(t, "router a\nlink a 0 b 0\nrouter b\n", 2, api.ErrSyntax)
	refuses(t, "router a\nlink b 0 a 0\nrouter b\n", 2, api.ErrSyntax)
}

// P11: what is wrong with the net is told when all has been read, at 0.
func TestParseChecks(t *testing.T) {
	for s, want := range map[string]api.Errno{
		"host a 16\n":                                          api.ErrArg,
		"host a 99\n":                                          api.ErrArg,
		"nat n 99 1\n":                                         api.ErrArg,
		"lb l 16 1\n":                                          api.ErrArg,
		"lb l 3 3\n":                                           api.ErrArg,
		"lb l 3 16\n":                                          api.ErrArg,
		"lb l 3 99\n":                                          api.ErrArg,
		"lb l 3 1,1\n":                                         api.ErrArg,
		"lb l 3 1,2,4,5\n":                                     api.ErrLarge,
		"lb l 3 99,99,99,99\n":                                 api.ErrLarge,
		"host a 1\nhost a 2\n":                                 api.ErrName,
		"host a 1\nhost a 2\nlink a 9 a 9\n":                   api.ErrName,
		"host a 1\npermit * * * *\n":                           api.ErrArg,
		"host a 1\nroute 0/0 0\n":                              api.ErrArg,
		"fire f\nroute 0/0 0\n":                                api.ErrArg,
		"nat n 3 1\ndeny * * * *\n":                            api.ErrArg,
		"lb l 3 1\ndeny * * * *\n":                             api.ErrArg,
		"router r\nroute 1/1 0\n":                              api.ErrArg,
		"router r\nroute 99/99 99\n":                           api.ErrArg,
		"router r\nroute 0/0 4\n":                              api.ErrArg,
		"router r\nroute 0/0 0\nroute 0/0 1\n":                 api.ErrName,
		"host a 1\nlink a 0 a 0\n":                             api.ErrName,
		"host a 1\nlink a 0 a 1\n":                             api.ErrArg,
		"host a 1\nlink a 99 a 0\n":                            api.ErrArg,
		"router r\nlink r 0 r 1\nlink r 1 r 2\n":               api.ErrName,
		"fire f\n" + strings.Repeat("deny * * * *\n", 8):       api.OK,
		"fire f\n" + strings.Repeat("deny * * * *\n", 9):       api.ErrLarge,
		"router r\n" + strings.Repeat("route 0/0 0\n", 9):      api.ErrLarge,
		strings.Repeat("fire f\n", 11):                         api.ErrLarge,
		strings.Repeat("fire f\n", 500):                        api.ErrLarge,
		"router r\n" + strings.Repeat("link r 0 r 0\n", 16):    api.ErrLarge,
		"router r\n" + strings.Repeat("link r 0 r 0\n", 15):    api.ErrName,
		"host a 1\n" + strings.Repeat("permit * * * *\n", 200): api.ErrArg,
		"lb l 0 " + strings.Repeat("1,", 1000) + "1\n":         api.ErrLarge,
		"host a 16\n" + strings.Repeat("fire f\n", 10):         api.ErrLarge,
	} {
		if want != api.OK {
			refuses(t, s, 0, want)
		}
		if e := reads(t, s); e != want {
			t.Errorf("%.60q: %v", s, e)
		}
		// A line that is none is told ahead of it, wherever that stands.
		refuses(t, s+"x\n", strings.Count(s, "\n")+1, api.ErrSyntax)
	}
}

// P11: at most 4096 bytes, whatever they are.
func TestParseLarge(t *testing.T) {
	deny := func(more int) string { return "deny " + strings.Repeat("1,", more) + "1 * * *\n" }
	good := "fire f\n" + strings.Repeat(deny(130), 8) + "fire gg\n" + strings.Repeat(deny(130), 6) + deny(123)
	if len(good) != 4096 {
		t.Fatal(len(good))
	}
	if e := reads(t, good); e != api.OK {
		t.Error(e)
	}
	refuses(t, good+"\n", 0, api.ErrLarge)
	refuses(t, "x"+good, 0, api.ErrLarge)
	refuses(t, strings.Repeat("x", 4096), 1, api.ErrSyntax)
	refuses(t, strings.Repeat("x", 4097), 0, api.ErrLarge)
	refuses(t, strings.Repeat("\n", 4096), 1, api.ErrSyntax)
	refuses(t, strings.Repeat("\n", 1<<20), 0, api.ErrLarge)
}

// P11: texts that lie a byte beside right ones.
func TestParseNear(t *testing.T) {
	const signs = " \n,/-*0123456789abcxlpr\x00\r\t\xffAZ"
	told := map[api.Errno]int{}
	for i := range len(oneText) + 1 {
		told[reads(t, oneText[:i])]++
		told[reads(t, oneText[i:])]++
		for j := range len(signs) {
			told[reads(t, oneText[:i]+signs[j:j+1]+oneText[i:])]++
			if i < len(oneText) {
				told[reads(t, oneText[:i]+signs[j:j+1]+oneText[i+1:])]++
			}
		}
		if i < len(oneText) {
			told[reads(t, oneText[:i]+oneText[i+1:])]++
		}
	}
	for _, e := range []api.Errno{api.OK, api.ErrArg, api.ErrSyntax, api.ErrName} {
		if told[e] == 0 {
			t.Error("not tried", e)
		}
	}
}

// P11: texts whose lines stand otherwise.
func TestParseMixed(t *testing.T) {
	r := rand.New(rand.NewSource(7))
	told := map[api.Errno]int{}
	for range 20000 {
		lines := strings.SplitAfter(oneText, "\n")
		lines = lines[:len(lines)-1]
		for range 1 + r.Intn(3) {
			i, j := r.Intn(len(lines)), r.Intn(len(lines))
			switch r.Intn(3) {
			case 0:
				lines[i], lines[j] = lines[j], lines[i]
			case 1:
				lines = slices.Insert(lines, i, lines[j])
			case 2:
				lines = slices.Delete(lines, i, i+1)
			}
		}
		told[reads(t, strings.Join(lines, ""))]++
	}
	for _, e := range []api.Errno{api.OK, api.ErrArg, api.ErrSyntax, api.ErrName} {
		if told[e] < 100 {
			t.Error("hardly tried", e, told[e])
		}
	}
}

// P2: a net that was read doesn't hang on the text's memory afterwards.
func TestParseKeepsNothing(t *testing.T) {
	room := []byte(oneText + "and what stands behind")
	was := string(room)
	n, _, e := net.Parse(unsafe.String(&room[0], len(oneText)))
	if e != api.OK || string(room) != was {
		t.Fatal(e, string(room))
	}
	clear(room)
	if !same(n, one()) {
		t.Error(n)
	}
}

// P2: no two lists of a net that was read share memory, spare room included.
func TestParseShares(t *testing.T) {
	const s = "router a\ndeny 1 * * *\nroute 0/0 1\nrouter b\ndeny 2 * * *\nroute 0/0 2\ndeny 3 * * *\nroute 8/1 2\ndeny 4 * * *\nroute 4/2 2\n" +
		"lb l 5 6,7,8\nlb m 5 9,10,11\nrouter c\nroute 0/0 3\nlink a 0 b 0\nlink b 1 a 1\nlink a 2 b 2\n"
	first, _, e := net.Parse(s)
	again, _, f := net.Parse(s)
	if e != api.OK || f != api.OK {
		t.Fatal(e, f)
	}
	want := withoutRoom(again)
	for i := range first.Devices {
		d := &first.Devices[i]
		fill(d.Backs, 99)
		fill(d.Rules, api.Rule{Permit: true})
		fill(d.Routes, api.Route{Port: 99})
		want[i].Backs = slices.Repeat([]int{99}, len(d.Backs))
		want[i].Rules = slices.Repeat([]api.Rule{{Permit: true}}, len(d.Rules))
		want[i].Routes = slices.Repeat([]api.Route{{Port: 99}}, len(d.Routes))
		if !same(api.Net{Devices: first.Devices}, api.Net{Devices: want}) {
			t.Fatal(i, first.Devices, want)
		}
	}
	fill(first.Links, api.Link{A: 99})
	fill(first.Devices, api.Device{})
	if s2, e := net.Print(again); e != api.OK {
		t.Error("two answers share", s2, e)
	}
}

// fill writes v to all of a list and of the room behind it.
func fill[T any](l []T, v T) {
	l = l[:cap(l)]
	for i := range l {
		l[i] = v
	}
}

func withoutRoom(n api.Net) []api.Device {
	var l []api.Device
	for _, d := range n.Devices {
		d.Backs, d.Rules, d.Routes = slices.Clone(d.Backs), slices.Clone(d.Rules), slices.Clone(d.Routes)
		l = append(l, d)
	}
	return l
}

// P2: each text is new memory.
func TestPrintIsNew(t *testing.T) {
	a, _ := net.Print(one())
	b, _ := net.Print(one())
	if a != b || unsafe.StringData(a) == unsafe.StringData(b) {
		t.Error("two answers share their memory")
	}
}

// P1, P11: whatever the bytes are, Parse answers as the model does, and what it
// reads is told as a text that is read as the same net.
func FuzzParse(f *testing.F) {
	for _, s := range []string{
		oneText, "", "\n", "host a 1", "host a 1\nhost a 2\n", "nat n 3 1,1\n", "lb l 3 1,2,4,5\n", "router r\nroute 8/1 0\ndeny 3,1 * * *\n",
		"host a 1\nhost b 2\nlink a 0 b 0\nhost c 3\n", "permit * * * *\n", "host a 100\n",
	} {
		f.Add(s)
	}
	f.Fuzz(func(t *testing.T, s string) {
		if reads(t, s) != api.OK {
			return
		}
		n, _, _ := net.Parse(s)
		u, e := net.Print(n)
		if e != api.OK {
			t.Fatalf("%q: %v", s, e)
		}
		if m, at, e := net.Parse(u); len(u) <= api.MaxText && (!same(m, n) || at != 0 || e != api.OK) {
			t.Fatalf("%q: %q %v %d %v", s, u, m, at, e)
		}
	})
}
