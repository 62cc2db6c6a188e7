// Package packet: packets: see doc/01-packet.md.
package packet

import (
	"strconv"
	"strings"

	"wireward/api"
	"wireward/number"
)

// How many codes there are to one number of a part: the parts of a code stand
// one behind the other, Src first, as the digits of a number do.
const (
	ofSport = api.PortsOf
	ofDst   = api.PortsOf * ofSport
	ofSrc   = api.Addrs * ofDst
)

// Check tells ErrArg of a packet with a part that none may be (P3).
func Check(p api.Packet) api.Errno {
	if isAddr(p.Src) && isAddr(p.Dst) && isPort(p.Sport) && isPort(p.Dport) {
		return api.OK
	}
	return api.ErrArg
}

// Code is the number of a packet, from 0 to 16383 (P3).
func Code(p api.Packet) (int, api.Errno) {
	if e := Check(p); e != api.OK {
		return 0, e
	}
	return p.Src*ofSrc + p.Dst*ofDst + p.Sport*ofSport + p.Dport, api.OK
}

// Of is the packet of a code (P3).
func Of(code int) (api.Packet, api.Errno) {
	if code < 0 || code >= api.Packets {
		return api.Packet{}, api.ErrArg
	}
	return api.Packet{
		Src:   code / ofSrc,
		Dst:   code / ofDst % api.Addrs,
		Sport: code / ofSport % api.PortsOf,
		Dport: code % api.PortsOf,
	}, api.OK
}

// Flip is the packet that answers p, whatever its parts are (P3).
func Flip(p api.Packet) api.Packet {
	return api.Packet{Src: p.Dst, Dst: p.Src, Sport: p.Dport, Dport: p.Sport}
}

// Print is the text of a packet, as `1:2>3:4` (P3).
func Print(p api.Packet) (string, api.Errno) {
	if e := Check(p); e != api.OK {
		return "", e
	}
	return printEnd(p.Src, p.Sport) + ">" + printEnd(p.Dst, p.Dport), api.OK
}

// Parse is the packet of a text that Print tells, and of no other (P3).
func Parse(s string) (api.Packet, api.Errno) {
	from, to, ok := strings.Cut(s, ">")
	if !ok {
		return api.Packet{}, api.ErrSyntax
	}
	src, sport, okFrom := parseEnd(from)
	dst, dport, okTo := parseEnd(to)
	p := api.Packet{Src: src, Dst: dst, Sport: sport, Dport: dport}
	// A number that none may be is a fault of the text here, not of an argument.
	if !okFrom || !okTo || Check(p) != api.OK {
		return api.Packet{}, api.ErrSyntax
	}
	return p, api.OK
}

func isAddr(n int) bool { return n >= 0 && n < api.Addrs }

func isPort(n int) bool { return n >= 0 && n < api.PortsOf }

func printEnd(addr, port int) string {
	return strconv.Itoa(addr) + ":" + strconv.Itoa(port)
}

func parseEnd(s string) (addr, port int, ok bool) {
	a, b, ok := strings.Cut(s, ":")
	if !ok {
		return 0, 0, false
	}
	addr, okAddr := number.Parse(a)
	port, okPort := number.Parse(b)
	return addr, port, okAddr && okPort
}
