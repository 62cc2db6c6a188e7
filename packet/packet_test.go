package packet

import (
	"math"
	"strconv"
	"strings"
	"sync"
	"testing"
	"unsafe"

	"wireward/api"
)

// wild are numbers in, at and beyond the bounds of every part.
var wild = []int{math.MinInt, -16384, -16, -1, 0, 1, 7, 8, 15, 16, 64, 16383, 16384, math.MaxInt}

// eachPacket goes through all packets by their parts, in the order of their codes.
func eachPacket(do func(code int, p api.Packet)) {
	code := 0
	for src := range 16 {
		for dst := range 16 {
			for sport := range 8 {
				for dport := range 8 {
					do(code, api.Packet{Src: src, Dst: dst, Sport: sport, Dport: dport})
					code++
				}
			}
		}
	}
}

// eachWild goes through packets of wild numbers, and tells which may be.
func eachWild(do func(p api.Packet, good bool)) {
	for _, src := range wild {
		for _, dst := range wild {
			for _, sport := range wild {
				for _, dport := range wild {
					good := src >= 0 && src <= 15 && dst >= 0 && dst <= 15 &&
						sport >= 0 && sport <= 7 && dport >= 0 && dport <= 7
					do(api.Packet{Src: src, Dst: dst, Sport: sport, Dport: dport}, good)
				}
			}
		}
	}
}

// textOf is written apart from Print, so that both are held against each other.
func textOf(p api.Packet) string {
	var b strings.Builder
	for i, n := range []int{p.Src, p.Sport, p.Dst, p.Dport} {
		b.WriteString([]string{"", ":", ">", ":"}[i])
		b.WriteString(strconv.Itoa(n))
	}
	return b.String()
}

// P3: codes and packets, all of them, both ways.
func TestCodeAndOf(t *testing.T) {
	count := 0
	eachPacket(func(code int, p api.Packet) {
		count++
		if e := Check(p); e != api.OK {
			t.Fatal("Check", p, e)
		}
		if c, e := Code(p); c != code || e != api.OK {
			t.Fatal("Code", p, c, e)
		}
		if c := p.Src*1024 + p.Dst*64 + p.Sport*8 + p.Dport; c != code {
			t.Fatal("order", p, c, code)
		}
		if q, e := Of(code); q != p || e != api.OK {
			t.Fatal("Of", code, q, e)
		}
	})
	if count != 16384 {
		t.Fatal(count)
	}
}

// P3: each part weighs what the chapter says.
func TestCodeOfParts(t *testing.T) {
	for _, c := range []struct {
		p    api.Packet
		code int
	}{
		{api.Packet{}, 0},
		{api.Packet{Dport: 1}, 1},
		{api.Packet{Sport: 1}, 8},
		{api.Packet{Dst: 1}, 64},
		{api.Packet{Src: 1}, 1024},
		{api.Packet{Src: 1, Sport: 2, Dst: 3, Dport: 4}, 1236},
		{api.Packet{Src: 15, Sport: 7, Dst: 15, Dport: 7}, 16383},
	} {
		if got, e := Code(c.p); got != c.code || e != api.OK {
			t.Error(c.p, got, e)
		}
	}
}

// P1, P3: parts out of their bounds, with nothing told beside the error.
func TestWildPackets(t *testing.T) {
	eachWild(func(p api.Packet, good bool) {
		want := api.ErrArg
		if good {
			want = api.OK
		}
		if e := Check(p); e != want {
			t.Fatal("Check", p, e)
		}
		if c, e := Code(p); e != want || !good && c != 0 {
			t.Fatal("Code", p, c, e)
		}
		if s, e := Print(p); e != want || !good && s != "" {
			t.Fatal("Print", p, s, e)
		}
	})
}

// P1, P3: codes out of their bounds.
func TestWildCodes(t *testing.T) {
	for _, code := range wild {
		want := api.ErrArg
		if code >= 0 && code <= 16383 {
			want = api.OK
		}
		p, e := Of(code)
		if e != want || e != api.OK && p != (api.Packet{}) {
			t.Error(code, p, e)
		}
	}
}

// P1, P3: Flip takes any packet, also one that Check refuses.
func TestFlip(t *testing.T) {
	eachWild(func(p api.Packet, _ bool) {
		q := Flip(p)
		if q.Src != p.Dst || q.Dst != p.Src || q.Sport != p.Dport || q.Dport != p.Sport {
			t.Fatal(p, q)
		}
		if Flip(q) != p {
			t.Fatal("twice", p)
		}
	})
}

// P3: texts of packets, all of them, both ways.
func TestPrintAndParse(t *testing.T) {
	eachPacket(func(_ int, p api.Packet) {
		s, e := Print(p)
		if e != api.OK || s != textOf(p) {
			t.Fatal("Print", p, s, e)
		}
		if q, e := Parse(s); e != api.OK || q != p {
			t.Fatal("Parse", s, q, e)
		}
	})
}

// P1, P3: texts that are none.
func TestParseWrong(t *testing.T) {
	for _, s := range []string{
		"", ">", ":", ":>:", "1", "1:2", "1:2>", ">3:4", "1:2>3", "1>3:4", "12>34",
		"1:2>3:", "1:2>:4", "1:>3:4", ":2>3:4",
		"16:0>0:0", "0:8>0:0", "0:0>16:0", "0:0>0:8", "100:0>0:0", "0:10>0:0",
		"01:0>0:0", "0:00>0:0", "0:0>00:0", "0:0>0:07", "015:0>0:0",
		"-1:0>0:0", "+1:0>0:0", "-0:0>0:0", "0:0>0:+4", "0x1:0>0:0", "1_0:0>0:0", "1e0:0>0:0",
		"1:2:3>4:5", "1:2>3:4:5", "1:2>3:4>5:6", "1:2>>3:4", "1::2>3:4", "1:2<3:4", "1>2:3>4", "1:2:3:4", "1>2>3>4",
		" 1:2>3:4", "1:2>3:4 ", "1:2 >3:4", "1: 2>3:4", "1:2>3:4\n", "\n1:2>3:4", "1:2>3:4\x00", "\x001:2>3:4",
		"١:2>3:4", "１:2>3:4", "1：2>3:4", "\xff", "\xff:2>3:4", "1:2>3:\xb4", "a:2>3:4", "1:2>3:b",
		"65537:0>0:0", "65536:0>0:0", "4294967296:0>0:0", "18446744073709551616:0>0:0", "18446744073709551617:2>3:4",
		"1:256>0:0", strings.Repeat("0", 1<<16) + "1:2>3:4", strings.Repeat("9", 1<<16) + ":0>0:0",
		strings.Repeat(":", 1<<16), strings.Repeat(">", 1<<16), strings.Repeat("1:2>3:4", 1000),
	} {
		if p, e := Parse(s); e != api.ErrSyntax || p != (api.Packet{}) {
			t.Errorf("%.40q: %v %v", s, p, e)
		}
	}
}

// P3: of all that lies a byte beside a packet's text, Parse takes what Print tells, and nothing else.
func TestParseNear(t *testing.T) {
	texts := map[string]api.Packet{}
	eachPacket(func(_ int, p api.Packet) { texts[textOf(p)] = p })
	try := func(s string) {
		q, e := Parse(s)
		want := api.ErrSyntax
		p, ok := texts[s]
		if ok {
			want = api.OK
		}
		if e != want || q != p {
			t.Fatalf("%q: %v %v", s, q, e)
		}
	}
	eachPacket(func(code int, p api.Packet) {
		if code%53 != 0 {
			return
		}
		s := textOf(p)
		for i := range len(s) + 1 {
			try(s[:i])
			try(s[i:])
			for b := range 256 {
				sign := string([]byte{byte(b)})
				try(s[:i] + sign + s[i:])
				if i < len(s) {
					try(s[:i] + sign + s[i+1:])
				}
			}
			if i < len(s) {
				try(s[:i] + s[i+1:])
			}
		}
	})
}

// P1, P3: whatever the bytes are, Parse answers, and takes a text just if Print tells it.
func FuzzParse(f *testing.F) {
	for _, s := range []string{"1:2>3:4", "15:7>15:7", "0:0>0:0", "16:0>0:0", "", ":>:", "01:2>3:4"} {
		f.Add(s)
	}
	f.Fuzz(func(t *testing.T, s string) {
		p, e := Parse(s)
		if e != api.OK {
			if e != api.ErrSyntax || p != (api.Packet{}) {
				t.Fatalf("%q: %v %v", s, p, e)
			}
			return
		}
		if back, e := Print(p); e != api.OK || back != s {
			t.Fatalf("%q: %v %q %v", s, p, back, e)
		}
	})
}

// P2: the text that is handed in stays as it is, and the packet doesn't hang on its bytes afterwards.
func TestParseKeepsNothing(t *testing.T) {
	room := []byte("1:2>3:4 and what stands behind")
	was := string(room)
	s := unsafe.String(&room[0], 7)
	p, e := Parse(s)
	if e != api.OK || string(room) != was {
		t.Fatal(p, e, string(room))
	}
	clear(room)
	if p != (api.Packet{Src: 1, Sport: 2, Dst: 3, Dport: 4}) {
		t.Error(p)
	}
}

// P2: each text is new memory.
func TestPrintIsNew(t *testing.T) {
	p := api.Packet{Src: 1, Sport: 2, Dst: 3, Dport: 4}
	a, _ := Print(p)
	b, _ := Print(p)
	if unsafe.StringData(a) == unsafe.StringData(b) {
		t.Error("two answers share their memory")
	}
}

// P2: answers hang on what was handed in alone: not on calls ahead, failed ones
// included, nor on those of others at the same time.
func TestNothingIsKept(t *testing.T) {
	var all sync.WaitGroup
	for first := range 4 {
		all.Go(func() {
			for code := first * 1000; code < api.Packets; code += 7 {
				p, _ := Of(code)
				s, _ := Print(p)
				Parse(s + "0")
				Code(api.Packet{Src: 16})
				Of(-1)
				q, e := Parse(s)
				if c, f := Code(q); e != api.OK || f != api.OK || c != code {
					t.Error(code, c, e, f)
				}
			}
		})
	}
	all.Wait()
}
