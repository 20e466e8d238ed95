package seal

import (
	"strings"
	"testing"

	"greatseal/api"
)

// texts are all texts of at most n letters of an alphabet, the empty one too.
func texts(alphabet string, n int) []string {
	all := []string{""}
	last := all
	for range n {
		var next []string
		for _, s := range last {
			for i := range len(alphabet) {
				next = append(next, s+alphabet[i:i+1])
			}
		}
		all = append(all, next...)
		last = next
	}
	return all
}

// long is a text of n bytes.
func long(n int) string { return strings.Repeat("x", n) }

// short tells a text without filling the screen.
func short(s string) string {
	if len(s) > 40 {
		return s[:40] + ".."
	}
	return s
}

func wantText(t *testing.T, what, got string, e api.Errno, want string, wantErr api.Errno) {
	t.Helper()
	if got != want || e != wantErr {
		t.Errorf("%s: %q %d, want %q %d", short(what), short(got), e, short(want), wantErr)
	}
}

func wantPair(t *testing.T, s, a, b string, wantErr api.Errno) {
	t.Helper()
	x, y, e := Split(s)
	if x != a || y != b || e != wantErr {
		t.Errorf("Split of %q: %q %q %d, want %q %q %d", short(s), short(x), short(y), e, short(a), short(b), wantErr)
	}
}

func TestLeaf(t *testing.T) {
	most := long(api.MaxText)
	for _, s := range []string{"", "a", "La", "N0:", "E", "é", "\x00\xff", most} {
		got, e := Leaf(s)
		wantText(t, "Leaf of "+s, got, e, "L"+s, api.OK)
	}
	for _, s := range []string{most + "x", most + most} {
		got, e := Leaf(s)
		wantText(t, "Leaf of too much", got, e, "", api.ErrMany)
	}
}

func TestNode(t *testing.T) {
	most := long(api.MaxText)
	for _, x := range []struct{ a, b, want string }{
		{"", "", "N0:"},
		{"a", "", "N1:a"},
		{"", "b", "N0:b"},
		{"La", "Lb", "N2:LaLb"},
		{"E", "E", "N1:EE"},
		{"N2:LaLb", "Lc", "N7:N2:LaLbLc"},
		{"0123456789", ":", "N10:0123456789:"},
		{"é", "a", "N2:éa"},
		{"\xff", "\x00", "N1:\xff\x00"},
		{most, "", "N20000:" + most},
		{"", most, "N0:" + most},
		{most[1:], "b", "N19999:" + most[1:] + "b"},
	} {
		got, e := Node(x.a, x.b)
		wantText(t, "Node of "+x.a+" and "+x.b, got, e, x.want, api.OK)
	}
	for _, x := range [][2]string{{most, "b"}, {"a", most}, {most + "x", ""}, {"", most + "x"}, {most, most}, {most[:10000], most[:10001]}} {
		got, e := Node(x[0], x[1])
		wantText(t, "Node of too much", got, e, "", api.ErrMany)
	}
}

func TestNone(t *testing.T) {
	wantText(t, "None", None(), api.OK, "E", api.OK)
	_, e := Open(None())
	_, _, f := Split(None())
	if e != api.ErrForm || f != api.ErrForm {
		t.Errorf("None is opened %d or parted %d", e, f)
	}
}

func TestOpen(t *testing.T) {
	for _, s := range []string{"", "a", "L", "La", "N0:", "é", "\x00\xff", long(api.MaxText), long(api.MaxText + 1)} {
		got, e := Open("L" + s)
		wantText(t, "Open of L"+s, got, e, s, api.OK)
	}
	for _, s := range []string{"", "E", "a", "l", "la", " La", "N0:", "N2:LaLb", "aL", "\xffL"} {
		got, e := Open(s)
		wantText(t, "Open of "+s, got, e, "", api.ErrForm)
	}
}

func TestSplit(t *testing.T) {
	wantPair(t, "N0:", "", "", api.OK)
	wantPair(t, "N0:ab", "", "ab", api.OK)
	wantPair(t, "N1:ab", "a", "b", api.OK)
	wantPair(t, "N2:ab", "ab", "", api.OK)
	wantPair(t, "N2:LaLb", "La", "Lb", api.OK)
	wantPair(t, "N1:::", ":", ":", api.OK)
	wantPair(t, "N0::", "", ":", api.OK)
	wantPair(t, "N10:0123456789:", "0123456789", ":", api.OK)
	wantPair(t, "N1:é", "\xc3", "\xa9", api.OK)
	most := long(api.MaxText + 1)
	wantPair(t, "N20001:"+most, most, "", api.OK)
	wantPair(t, "N20000:"+most, most[1:], "x", api.OK)
	wantPair(t, "N20002:"+most, "", "", api.ErrForm)
}

func TestSplitOfWrongForms(t *testing.T) {
	for _, s := range []string{
		"", "E", "L", "La", "LN0:", "N", "N0", "N2", "N:", "N:ab", "N::",
		"n0:", "X2:ab", " N0:", "2:ab", "0:",
		"N1:", "N3:ab", "N10:abc",
		"N00:", "N02:ab", "N-0:", "N-1:ab", "N+0:", "N+1:ab",
		"N 1:ab", "N1 :ab", "N1\n:ab", "N0x1:ab", "N1_0:0123456789", "N1.0:ab", "N1e0:ab", "Na:b", "N1a:b",
		"N\u0661:ab", "N\uff11:ab", "N1\x00:ab", "N1\uff1aab", "N1;ab",
		"N2147483648:ab", "N4294967297:ab", "N9223372036854775807:ab", "N9223372036854775808:ab",
		"N18446744073709551616:ab", "N18446744073709551617:ab", "N-9223372036854775808:ab",
		"N" + strings.Repeat("9", 5000) + ":ab", "N" + strings.Repeat("0", 5000) + ":ab",
	} {
		wantPair(t, s, "", "", api.ErrForm)
	}
}

// TestWhatIsTakenIsASeal: whatever is opened or parted is just the seal of what comes out, and never both.
func TestWhatIsTakenIsASeal(t *testing.T) {
	opened, parted := 0, 0
	for _, s := range texts("LNE01:-", 6) {
		text, e := Open(s)
		a, b, f := Split(s)
		if e == api.OK {
			opened++
			got, again := Leaf(text)
			wantText(t, "Leaf of Open of "+s, got, again, s, api.OK)
		}
		if f == api.OK {
			parted++
			got, again := Node(a, b)
			wantText(t, "Node of Split of "+s, got, again, s, api.OK)
		}
		if e == api.OK && f == api.OK {
			t.Errorf("%q is opened and parted", s)
		}
	}
	if opened == 0 || parted == 0 {
		t.Errorf("nothing was tried: %d opened, %d parted", opened, parted)
	}
}

// TestNoSealTwice: texts, pairs and nothing all have seals of their own, and what they are of comes back.
func TestNoSealTwice(t *testing.T) {
	of := map[string]string{None(): "nothing"}
	note := func(s, what string) {
		if other, there := of[s]; there {
			t.Errorf("%q is the seal of %s and of %s", s, other, what)
		}
		of[s] = what
	}
	few := texts("LN1:", 3)
	for _, a := range few {
		s, e := Leaf(a)
		wantText(t, "error of Leaf", "", e, "", api.OK)
		note(s, "text "+a)
		text, e := Open(s)
		wantText(t, "Open of "+s, text, e, a, api.OK)
		for _, b := range few {
			s, e := Node(a, b)
			wantText(t, "error of Node", "", e, "", api.OK)
			note(s, "pair "+a+" and "+b)
			wantPair(t, s, a, b, api.OK)
		}
	}
}

// TestGreatestSealsComeBack: a seal is longer than what it is of, and is taken nonetheless.
func TestGreatestSealsComeBack(t *testing.T) {
	most := long(api.MaxText)
	s, _ := Leaf(most)
	text, e := Open(s)
	wantText(t, "Open of the greatest Leaf", text, e, most, api.OK)
	for _, n := range []int{0, 1, 9, 10, 9999, 10000, api.MaxText - 1, api.MaxText} {
		s, e := Node(most[:n], most[n:])
		wantText(t, "error of Node", "", e, "", api.OK)
		wantPair(t, s, most[:n], most[n:], api.OK)
	}
}

// FuzzSplit: no text makes Open or Split panic, and what they take is a seal.
func FuzzSplit(f *testing.F) {
	for _, s := range []string{"", "E", "La", "N0:", "N2:LaLb", "N02:ab", "N-1:ab", "N99999999999999999999:"} {
		f.Add(s)
	}
	f.Fuzz(func(t *testing.T, s string) {
		if a, b, e := Split(s); e == api.OK && len(a)+len(b) <= api.MaxText {
			got, again := Node(a, b)
			wantText(t, "Node of Split of "+s, got, again, s, api.OK)
		}
		if text, e := Open(s); e == api.OK && len(text) <= api.MaxText {
			got, again := Leaf(text)
			wantText(t, "Leaf of Open of "+s, got, again, s, api.OK)
		}
	})
}
