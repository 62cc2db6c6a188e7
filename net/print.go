package net

import (
	"strconv"
	"strings"

	"wireward/api"
	"wireward/match"
)

// First words of the lines that aren't a device's.
const (
	wordPermit = "permit"
	wordDeny   = "deny"
	wordRoute  = "route"
	wordLink   = "link"
)

// deviceLines are the first word of each kind's line, and how many words such
// a line has.
var deviceLines = [...]struct {
	word        string
	kind, words int
}{
	{"host", api.KHost, 3},
	{"router", api.KRouter, 2},
	{"fire", api.KFire, 2},
	{"nat", api.KNat, 4},
	{"lb", api.KBalancer, 4},
}

// Print is the text of a net that Check takes (P11).
func Print(n api.Net) (string, api.Errno) {
	if e := Check(n); e != api.OK {
		return "", e
	}
	var b strings.Builder
	for _, d := range n.Devices {
		printLine(&b, deviceWords(d)...)
		for _, r := range d.Rules {
			printLine(&b, ruleWord(r), match.Print(r.Match))
		}
		for _, r := range d.Routes {
			printLine(&b, wordRoute, strconv.Itoa(r.Value)+"/"+strconv.Itoa(r.Bits), strconv.Itoa(r.Port))
		}
	}
	for _, l := range n.Links {
		printLine(&b, wordLink, n.Devices[l.A].Name, strconv.Itoa(l.P), n.Devices[l.B].Name, strconv.Itoa(l.Q))
	}
	return b.String(), api.OK
}

func printLine(b *strings.Builder, words ...string) {
	b.WriteString(strings.Join(words, " "))
	b.WriteByte('\n')
}

func deviceWords(d api.Device) []string {
	words := []string{kindWord(d.Kind), d.Name}
	if hasAddr(d.Kind) {
		words = append(words, strconv.Itoa(d.Addr))
	}
	switch d.Kind {
	case api.KNat:
		words = append(words, printNumbers(portsIn(d.Pool)))
	case api.KBalancer:
		words = append(words, printNumbers(d.Backs))
	}
	return words
}

func kindWord(kind int) string {
	for _, l := range deviceLines {
		if l.kind == kind {
			return l.word
		}
	}
	return ""
}

func ruleWord(r api.Rule) string {
	if r.Permit {
		return wordPermit
	}
	return wordDeny
}

// portsIn is the ports of a pool, rising.
func portsIn(pool uint8) []int {
	var l []int
	for port := range api.PortsOf {
		if pool>>port&1 == 1 {
			l = append(l, port)
		}
	}
	return l
}

func printNumbers(l []int) string {
	words := make([]string, len(l))
	for i, n := range l {
		words[i] = strconv.Itoa(n)
	}
	return strings.Join(words, ",")
}
