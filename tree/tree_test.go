package tree

import (
	"math"
	"slices"
	"strconv"
	"strings"
	"testing"

	"greatseal/api"
	"greatseal/seal"
)

// long is a text of n bytes.
func long(n int) string { return strings.Repeat("x", n) }

// short tells a text without filling the screen.
func short(s string) string {
	if len(s) > 60 {
		return s[:60] + ".."
	}
	return s
}

// letters is a list of n texts, no two alike.
func letters(n int) []string {
	var l []string
	for i := range n {
		l = append(l, string(rune('a'+i)))
	}
	return l
}

// lists are all lists of at most n of the texts.
func lists(texts []string, n int) [][]string {
	all := [][]string{nil}
	last := all
	for range n {
		var next [][]string
		for _, l := range last {
			for _, s := range texts {
				next = append(next, append(slices.Clone(l), s))
			}
		}
		all = append(all, next...)
		last = next
	}
	return all
}

// read is the list that a Root is of, by what the seals alone say.
func read(t *testing.T, s string) []string {
	t.Helper()
	if s == seal.None() {
		return nil
	}
	if text, e := seal.Open(s); e == api.OK {
		return []string{text}
	}
	a, b, e := seal.Split(s)
	if e != api.OK || a == seal.None() || b == seal.None() {
		t.Fatalf("%q is no part of a Root", short(s))
	}
	return append(read(t, a), read(t, b)...)
}

func wantHalf(t *testing.T, n, want int, wantErr api.Errno) {
	t.Helper()
	if got, e := Half(n); got != want || e != wantErr {
		t.Errorf("Half of %d: %d %d, want %d %d", n, got, e, want, wantErr)
	}
}

func wantRoot(t *testing.T, l []string, want string, wantErr api.Errno) {
	t.Helper()
	if got, e := Root(l); got != want || e != wantErr {
		t.Errorf("Root of %d texts, %q: %q %d, want %q %d", len(l), short(strings.Join(l, ",")), short(got), e, short(want), wantErr)
	}
}

func TestHalf(t *testing.T) {
	for i, want := range []int{1, 2, 2, 4, 4, 4, 4, 8, 8, 8, 8, 8, 8, 8, 8, 16, 16, 16, 16, 16, 16, 16, 16} {
		wantHalf(t, i+2, want, api.OK)
	}
}

func TestHalfOutOfRange(t *testing.T) {
	for _, n := range []int{1, 0, -1, -2, -24, api.MaxLeaves + 1, api.MaxLeaves + 8, 1 << 20, math.MaxInt, math.MinInt} {
		wantHalf(t, n, 0, api.ErrRange)
	}
}

func TestRoot(t *testing.T) {
	for _, x := range []struct {
		l    []string
		want string
	}{
		{nil, "E"},
		{[]string{}, "E"},
		{[]string{""}, "L"},
		{[]string{"a"}, "La"},
		{[]string{"", ""}, "N1:LL"},
		{[]string{"a", "b"}, "N2:LaLb"},
		{[]string{"b", "a"}, "N2:LbLa"},
		{[]string{"a", "a"}, "N2:LaLa"},
		{letters(3), "N7:N2:LaLbLc"},
		{letters(4), "N7:N2:LaLbN2:LcLd"},
		{letters(5), "N17:N7:N2:LaLbN2:LcLdLe"},
		{letters(6), "N17:N7:N2:LaLbN2:LcLdN2:LeLf"},
		{letters(7), "N17:N7:N2:LaLbN2:LcLdN7:N2:LeLfLg"},
		{[]string{"E", "La"}, "N2:LELLa"},
		{[]string{"N2:LaLb"}, "LN2:LaLb"},
		{[]string{"\x00", "\xff", "é"}, "N7:N2:L\x00L\xffLé"},
	} {
		wantRoot(t, x.l, x.want, api.OK)
	}
}

// TestRootsGoByHalf: each list up to the longest is the Node of its two parts.
func TestRootsGoByHalf(t *testing.T) {
	for n := 2; n <= api.MaxLeaves; n++ {
		l := letters(n)
		half, _ := Half(n)
		left, _ := Root(l[:half])
		right, _ := Root(l[half:])
		want, e := seal.Node(left, right)
		wantRoot(t, l, want, e)
	}
}

func TestRootOfTooMany(t *testing.T) {
	wantRoot(t, make([]string, api.MaxLeaves+1), "", api.ErrMany)
	wantRoot(t, letters(api.MaxLeaves+1), "", api.ErrMany)
	wantRoot(t, make([]string, 100000), "", api.ErrMany)
	if got, e := Root(make([]string, api.MaxLeaves)); got == "" || e != api.OK {
		t.Errorf("Root of the longest list: %q %d", short(got), e)
	}
}

// TestRootOfTooMuch: what the seals refuse, the Root refuses: in a leaf, in a pair at the top, and in one within.
func TestRootOfTooMuch(t *testing.T) {
	most := long(api.MaxText)
	wantRoot(t, []string{most}, "L"+most, api.OK)
	wantRoot(t, []string{most + "x"}, "", api.ErrMany)
	wantRoot(t, []string{most[3:], "b"}, "N"+strconv.Itoa(api.MaxText-2)+":L"+most[3:]+"Lb", api.OK)
	wantRoot(t, []string{most[2:], "b"}, "", api.ErrMany)
	wantRoot(t, []string{"a", most[3:]}, "N2:LaL"+most[3:], api.OK)
	wantRoot(t, []string{"a", most[2:]}, "", api.ErrMany)
	for n := 2; n <= api.MaxLeaves; n++ {
		for i := range n {
			l := letters(n)
			l[i] = most + "x"
			wantRoot(t, l, "", api.ErrMany)
		}
	}
	// A seal counts what its parts' seals add, too: of these three the texts come to less than MaxText.
	three := []string{"a", "b", long(api.MaxText - 8)}
	wantRoot(t, three, "N7:N2:LaLbL"+three[2], api.OK)
	three[2] += "x"
	wantRoot(t, three, "", api.ErrMany)
	three = []string{long(api.MaxText - 12), "b", "c"}
	wantRoot(t, three, "N19998:N19989:L"+three[0]+"LbLc", api.OK)
	three[0] += "x"
	wantRoot(t, three, "", api.ErrMany)
}

// TestRootIsRead: the list comes back out of its Root, at every length.
func TestRootIsRead(t *testing.T) {
	for n := 0; n <= api.MaxLeaves; n++ {
		for _, l := range [][]string{letters(n), make([]string, n), slices.Repeat([]string{"N2:LaLb"}, n)} {
			s, e := Root(l)
			if got := read(t, s); e != api.OK || !slices.Equal(got, l) {
				t.Errorf("of the Root of %q comes %q, %d", l, got, e)
			}
		}
	}
}

// TestNoRootTwice: no two lists have one Root, not even those whose texts look like seals.
func TestNoRootTwice(t *testing.T) {
	of := map[string][]string{}
	note := func(l []string) {
		s, e := Root(l)
		if other, there := of[s]; there || e != api.OK {
			t.Errorf("%q is the Root of %q and of %q, %d", s, other, l, e)
		}
		of[s] = l
	}
	for _, l := range lists([]string{"", "a", "La", "E", "N2:LaLb"}, 5) {
		note(l)
	}
	for n := 6; n <= api.MaxLeaves; n++ {
		note(make([]string, n))
		note(letters(n))
	}
}

// TestRootOnlyReads: neither the list nor the room behind it is changed, and asking again answers the same.
func TestRootOnlyReads(t *testing.T) {
	for n := 0; n <= api.MaxLeaves; n++ {
		room := letters(api.MaxLeaves + 4)
		first, _ := Root(room[:n])
		again, _ := Root(room[:n])
		if first != again || !slices.Equal(room, letters(api.MaxLeaves+4)) {
			t.Errorf("Root of %d texts left %q behind, and answered %q and %q", n, room, first, again)
		}
	}
}
