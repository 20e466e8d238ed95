// Package seal: one text of a text, or of two; see doc/01-seal.md.
package seal

import (
	"strconv"
	"strings"

	"greatseal/api"
)

// No mark begins another one: that alone keeps the seals of a text, of a pair and of nothing apart.
const (
	leafMark = "L"
	nodeMark = "N"
	noneMark = "E"
	colon    = ":"
)

// Leaf is the seal of a text.
func Leaf(s string) (string, api.Errno) {
	if len(s) > api.MaxText {
		return "", api.ErrMany
	}
	return leafMark + s, api.OK
}

// Node is the seal of a pair: how long a is stands ahead, so that the pair can be parted again in one way only.
func Node(a, b string) (string, api.Errno) {
	// A sum of the two lengths could wrap round where int is short; this cannot.
	if len(a) > api.MaxText-len(b) {
		return "", api.ErrMany
	}
	return nodeMark + strconv.Itoa(len(a)) + colon + a + b, api.OK
}

// None is the seal of nothing.
func None() string { return noneMark }

// Open is the text that a Leaf is of.
func Open(s string) (string, api.Errno) {
	text, found := strings.CutPrefix(s, leafMark)
	if !found {
		return "", api.ErrForm
	}
	return text, api.OK
}

// Split is the pair that a Node is of.
func Split(s string) (string, string, api.Errno) {
	rest, found := strings.CutPrefix(s, nodeMark)
	if !found {
		return "", "", api.ErrForm
	}
	// A number has no colon in it, so the first one is the one behind it, whatever the pair has.
	number, pair, found := strings.Cut(rest, colon)
	if !found {
		return "", "", api.ErrForm
	}
	n, good := length(number)
	if !good || n > len(pair) {
		return "", "", api.ErrForm
	}
	return pair[:n], pair[n:], api.OK
}

// length reads a number from 0 on in the one way in which strconv.Itoa writes it: Atoi takes signs and leading zeros too, and a pair would have more than one seal.
func length(number string) (int, bool) {
	n, err := strconv.Atoi(number)
	if err != nil || n < 0 || strconv.Itoa(n) != number {
		return 0, false
	}
	return n, true
}
