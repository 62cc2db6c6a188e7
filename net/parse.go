package net

import (
	"strings"

	"wireward/api"
	"wireward/match"
	"wireward/number"
)

const numbersBelow = 100 // all numbers of a text but a match's

// reader has what was read of a net so far.
type reader struct{ net api.Net }

// Parse is the net of a text as Print tells it, or of one that tells the same
// net in other ways; else an error, and the line that it is of, or 0 (P11).
func Parse(s string) (api.Net, int, api.Errno) {
	if len(s) > api.MaxText {
		return api.Net{}, 0, api.ErrLarge
	}
	var r reader
	for at := 1; s != ""; at++ {
		line, rest, ended := strings.Cut(s, "\n")
		if !ended || !r.readLine(line) {
			return api.Net{}, at, api.ErrSyntax
		}
		s = rest
	}
	if e := Check(r.net); e != api.OK {
		return api.Net{}, 0, e
	}
	return r.net, 0, api.OK
}

func (r *reader) readLine(line string) bool {
	words := strings.Split(line, " ")
	switch words[0] {
	case wordPermit, wordDeny:
		return r.readRule(words)
	case wordRoute:
		return r.readRoute(words)
	case wordLink:
		return r.readLink(words)
	}
	return r.readDevice(words)
}

func (r *reader) readDevice(words []string) bool {
	d, ok := parseDevice(words)
	if !ok || len(r.net.Links) > 0 {
		return false
	}
	r.net.Devices = append(r.net.Devices, d)
	return true
}

func (r *reader) readRule(words []string) bool {
	d := r.open()
	m, e := match.Parse(strings.Join(words[1:], " "))
	if d == nil || e != api.OK {
		return false
	}
	d.Rules = append(d.Rules, api.Rule{Permit: words[0] == wordPermit, Match: m})
	return true
}

func (r *reader) readRoute(words []string) bool {
	d := r.open()
	route, ok := parseRoute(words)
	if d == nil || !ok {
		return false
	}
	d.Routes = append(d.Routes, route)
	return true
}

func (r *reader) readLink(words []string) bool {
	if len(words) != 5 {
		return false
	}
	a, okA := find(r.net.Devices, words[1])
	p, okP := parseNumber(words[2])
	b, okB := find(r.net.Devices, words[3])
	q, okQ := parseNumber(words[4])
	if !okA || !okP || !okB || !okQ {
		return false
	}
	r.net.Links = append(r.net.Links, api.Link{A: a, P: p, B: b, Q: q})
	return true
}

// open is the device that a rule or a route belongs to, if it stands here. To
// one behind a link no device is open, since links end the devices.
func (r *reader) open() *api.Device {
	last := len(r.net.Devices) - 1
	if last < 0 || len(r.net.Links) > 0 {
		return nil
	}
	return &r.net.Devices[last]
}

func parseDevice(words []string) (api.Device, bool) {
	kind, ok := kindOf(words)
	if !ok || !isName(words[1]) {
		return api.Device{}, false
	}
	// Without Clone the name would share the text's memory.
	d := api.Device{Name: strings.Clone(words[1]), Kind: kind}
	okAddr, okList := true, true
	if hasAddr(kind) {
		d.Addr, okAddr = parseNumber(words[2])
	}
	switch kind {
	case api.KNat:
		d.Pool, okList = parsePool(words[3])
	case api.KBalancer:
		d.Backs, okList = parseNumbers(words[3])
	}
	if !okAddr || !okList {
		return api.Device{}, false
	}
	return d, true
}

// kindOf is the kind whose line begins with the first of the words and has as
// many.
func kindOf(words []string) (int, bool) {
	for _, l := range deviceLines {
		if l.word == words[0] && l.words == len(words) {
			return l.kind, true
		}
	}
	return 0, false
}

func parseRoute(words []string) (api.Route, bool) {
	if len(words) != 3 {
		return api.Route{}, false
	}
	first, second, _ := strings.Cut(words[1], "/")
	value, okValue := parseNumber(first)
	bits, okBits := parseNumber(second)
	port, okPort := parseNumber(words[2])
	if !okValue || !okBits || !okPort {
		return api.Route{}, false
	}
	return api.Route{Value: value, Bits: bits, Port: port}, true
}

func parsePool(s string) (uint8, bool) {
	ports, ok := parseNumbers(s)
	if !ok {
		return 0, false
	}
	var pool uint8
	for _, port := range ports {
		if port >= api.PortsOf || pool>>port&1 == 1 {
			return 0, false
		}
		pool |= 1 << port
	}
	return pool, true
}

func parseNumbers(s string) ([]int, bool) {
	var l []int
	for _, word := range strings.Split(s, ",") {
		n, ok := parseNumber(word)
		if !ok {
			return nil, false
		}
		l = append(l, n)
	}
	return l, true
}

func parseNumber(s string) (int, bool) {
	n, ok := number.Parse(s)
	if !ok || n >= numbersBelow {
		return 0, false
	}
	return n, true
}
