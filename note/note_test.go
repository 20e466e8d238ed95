package note

import (
	"math"
	"strconv"
	"strings"
	"testing"

	"greatseal/api"
	"greatseal/book"
)

// long is a text of n bytes.
func long(n int) string { return strings.Repeat("x", n) }

// short tells a text without filling the screen.
func short(s string) string {
	if len(s) > 60 {
		return s[:60] + ".. of " + strconv.Itoa(len(s)) + " bytes"
	}
	return s
}

// tell is a head told in short.
func tell(h api.Head) string {
	return strconv.Itoa(h.N) + ", " + strconv.Quote(short(h.Log)) + ", " + strconv.Quote(short(h.Map))
}

// texts are all texts of at most n letters of an alphabet, the empty one too.
func texts(alphabet string, n int) []string {
	all := []string{""}
	last := all
	for range n {
		var next []string
		for _, s := range last {
			for i := range len(alphabet) {
				next = append(next, s+alphabet[i:i+1])
			}
		}
		all = append(all, next...)
		last = next
	}
	return all
}

// written are heads, and each as a text, by hand.
func written() map[string]api.Head {
	most := long(api.MaxText)
	return map[string]api.Head{
		"0 0 0 ":                       {},
		"1 0 0 ":                       {N: 1},
		"24 0 0 ":                      {N: api.MaxLeaves},
		"0 1 0 a":                      {Log: "a"},
		"0 0 1 a":                      {Map: "a"},
		"2 2 3 abc d":                  {N: 2, Log: "ab", Map: "c d"},
		"2 3 2 abc d":                  {N: 2, Log: "abc", Map: " d"},
		"7 1 1   ":                     {N: 7, Log: " ", Map: " "},
		"0 0 3    ":                    {Map: "   "},
		"3 6 2 1 2 3 45":               {N: 3, Log: "1 2 3 ", Map: "45"},
		"0 6 6 0 0 0 0 0 0 ":           {Log: "0 0 0 ", Map: "0 0 0 "},
		"1 4 10 L5 x0123456789":        {N: 1, Log: "L5 x", Map: "0123456789"},
		"9 2 1 éa":                     {N: 9, Log: "é", Map: "a"},
		"9 1 1 é":                      {N: 9, Log: "\xc3", Map: "\xa9"},
		"9 2 2 \xff\x00\n\t":           {N: 9, Log: "\xff\x00", Map: "\n\t"},
		"24 20000 0 " + most:           {N: api.MaxLeaves, Log: most},
		"0 0 20000 " + most:            {Map: most},
		"5 20000 20000 " + most + most: {N: 5, Log: most, Map: most},
		"5 19999 1 " + most:            {N: 5, Log: most[1:], Map: "x"},
	}
}

// bad are heads that are refused, and what of them is told.
func bad() map[api.Errno][]api.Head {
	over := long(api.MaxText + 1)
	// Bytes are counted, not letters.
	letters := strings.Repeat("ä", api.MaxText/2) + "x"
	l := map[api.Errno][]api.Head{
		api.ErrMany: {{Log: over}, {Map: over}, {Log: over, Map: over}, {N: api.MaxLeaves, Log: long(3 * api.MaxText)}, {N: 1, Map: letters}, {N: 1, Log: letters}},
	}
	for _, n := range []int{-1, -2, api.MaxLeaves + 1, 100, 256, -256, math.MaxInt32, math.MinInt32, math.MaxInt, math.MinInt} {
		// How many entries is told ahead of how long the seals are.
		l[api.ErrRange] = append(l[api.ErrRange], api.Head{N: n}, api.Head{N: n, Log: "a", Map: "b"}, api.Head{N: n, Log: over}, api.Head{N: n, Map: over})
	}
	return l
}

// byHand is a head as Print would write it if it checked nothing.
func byHand(h api.Head) string {
	return strconv.Itoa(h.N) + " " + strconv.Itoa(len(h.Log)) + " " + strconv.Itoa(len(h.Map)) + " " + h.Log + h.Map
}

func wantPrint(t *testing.T, h api.Head, want string, wantErr api.Errno) {
	t.Helper()
	if got, e := Print(h); got != want || e != wantErr {
		t.Errorf("Print of %s: %q %d, want %q %d", tell(h), short(got), e, short(want), wantErr)
	}
}

func wantParse(t *testing.T, s string, want api.Head, wantErr api.Errno) {
	t.Helper()
	if got, e := Parse(s); got != want || e != wantErr {
		t.Errorf("Parse of %q: %s %d, want %s %d", short(s), tell(got), e, tell(want), wantErr)
	}
}

func TestCheck(t *testing.T) {
	most := long(api.MaxText)
	for n := range api.MaxLeaves + 1 {
		for _, h := range []api.Head{{N: n}, {N: n, Log: most}, {N: n, Map: most}, {N: n, Log: most, Map: most}, {N: n, Log: "no seal"}} {
			if e := Check(h); e != api.OK {
				t.Errorf("Check of %s: %d, want OK", tell(h), e)
			}
		}
	}
}

// TestRefused: Print and Parse tell of a head what Check tells of it, and nothing beside that.
func TestRefused(t *testing.T) {
	for want, heads := range bad() {
		for _, h := range heads {
			if e := Check(h); e != want {
				t.Errorf("Check of %s: %d, want %d", tell(h), e, want)
			}
			wantPrint(t, h, "", want)
			if h.N >= 0 {
				wantParse(t, byHand(h), api.Head{}, want)
			} else {
				// A number below 0 is not written in any text.
				wantParse(t, byHand(h), api.Head{}, api.ErrText)
			}
		}
	}
}

func TestWritten(t *testing.T) {
	for s, h := range written() {
		wantPrint(t, h, s, api.OK)
		wantParse(t, s, h, api.OK)
	}
}

func TestParseOfWrongTexts(t *testing.T) {
	for _, s := range []string{
		// Numbers, blanks or seals that are not there.
		"", " ", "  ", "   ", "    ", "a", "0", "0 ", "0 0", "0 0 ", "0 0 0", "2 2 3", "2 2 abc d", "abc d", " 0 0 ", "0  0 ", "0 0  ",
		// Fewer bytes than are told, and more.
		"0 1 0 ", "0 0 1 ", "0 1 1 a", "2 2 4 abc d", "2 3 3 abc d", "2 9 3 abc d", "2 2 9 abc d", "2 6 0 abc d", "2 0 6 abc d",
		"0 0 0 a", "0 0 0  ", "0 1 0 ab", "0 0 1 ab", "2 2 2 abc d", "2 1 3 abc d", "2 2 3 abc d ", "2 2 3 abc d\n", "0 0 0 \x00",
		// Numbers that strconv.Itoa does not write.
		"02 2 3 abc d", "2 02 3 abc d", "2 2 03 abc d", "00 0 0 ", "0 00 0 ", "0 0 00 ",
		"+2 2 3 abc d", "2 +2 3 abc d", "2 2 +3 abc d", "-0 0 0 ", "0 -0 0 ", "0 0 -0 ",
		"2.0 2 3 abc d", "2e0 2 3 abc d", "0x2 2 3 abc d", "1_0 2 3 abc d", "2 2 0b11 abc d", "two 2 3 abc d",
		"\u0662 2 3 abc d", "\uff12 2 3 abc d", "2\x00 2 3 abc d", "2\u00a02 3 abc d",
		// Numbers below 0, that would come to as many bytes as there are, too.
		"-1 2 3 abc d", "2 -2 3 abc d", "2 2 -3 abc d", "2 -1 6 abc d", "2 6 -1 abc d", "2 -5 10 abc d", "2 10 -5 abc d", "-1 -1 -1 ",
		// Other blanks than one, and blanks ahead.
		" 2 2 3 abc d", "2  2 3 abc d", "2 2  3 abc d", "2\t2 3 abc d", "2 2 3\tabc d", "2\n2\n3\nabc d", "2,2,3,abc d", "2 2 3abc d",
		// Numbers too great for any text to be so long, and for an int.
		"0 9223372036854775807 0 ", "0 0 9223372036854775807 ", "0 9223372036854775807 9223372036854775807 ", "0 4294967296 0 ", "0 0 4294967296 ",
		"0 9223372036854775807 1 a", "0 1 9223372036854775807 a",
		"0 9223372036854775808 0 ", "0 0 18446744073709551616 ", "0 18446744073709551617 0 a", "9223372036854775808 0 0 ", "18446744073709551616 0 0 ", "-9223372036854775808 0 0 ",
		strings.Repeat("9", 5000) + " 0 0 ", "0 " + strings.Repeat("0", 5000) + " 0 ", strings.Repeat("0 ", 5000), strings.Repeat(" ", 5000),
	} {
		wantParse(t, s, api.Head{}, api.ErrText)
	}
}

// TestTextAheadOfHead: that a text isn't written so is told ahead of what is wrong with the head.
func TestTextAheadOfHead(t *testing.T) {
	over := long(api.MaxText + 1)
	for _, s := range []string{
		"25 2 4 abc d", "25 2 2 abc d", "25 02 3 abc d", "025 2 3 abc d", "25 2 3", "25 ", "25",
		"0 20001 0 " + over[1:], "0 20001 0 " + over + "x", "0 20001 1 " + over, "0 1 20001 " + over, "0 020001 0 " + over, "0 20000 0 " + over, "25 20002 0 " + over,
	} {
		wantParse(t, s, api.Head{}, api.ErrText)
	}
	wantParse(t, "25 2 3 abc d", api.Head{}, api.ErrRange)
	wantParse(t, "9223372036854775807 2 3 abc d", api.Head{}, api.ErrRange)
	wantParse(t, "0 20001 0 "+over, api.Head{}, api.ErrMany)
	wantParse(t, "0 0 20001 "+over, api.Head{}, api.ErrMany)
	wantParse(t, "25 20001 0 "+over, api.Head{}, api.ErrRange)
}

// TestEveryPieceIsRefused: of a text with an end cut off, or with more at an end, nothing is read.
func TestEveryPieceIsRefused(t *testing.T) {
	s := "12 3 10 abc1 23 4 5 6"
	wantParse(t, s, api.Head{N: 12, Log: "abc", Map: "1 23 4 5 6"}, api.OK)
	for i := range s {
		wantParse(t, s[:i], api.Head{}, api.ErrText)
	}
	for _, more := range []string{" ", "0", "x", "\x00", s} {
		wantParse(t, s+more, api.Head{}, api.ErrText)
	}
}

// TestParseOfPrint: the head comes back, whatever its seals have.
func TestParseOfPrint(t *testing.T) {
	few := texts("1 L:", 3)
	for i, log := range few {
		for _, all := range few {
			h := api.Head{N: i % (api.MaxLeaves + 1), Log: log, Map: all}
			wantPrint(t, h, byHand(h), api.OK)
			wantParse(t, byHand(h), h, api.OK)
		}
	}
	for n := range api.MaxLeaves + 1 {
		for _, a := range []int{0, 1, 9, 10, 99, 100, 9999, 10000, api.MaxText} {
			h := api.Head{N: n, Log: long(a), Map: strings.Repeat(" ", api.MaxText-a)}
			s, e := Print(h)
			if e != api.OK {
				t.Fatalf("no Print of %s: %d", tell(h), e)
			}
			wantParse(t, s, h, api.OK)
		}
	}
}

// TestHeadsOfBooks: the head of each book has a text, and comes back from it.
func TestHeadsOfBooks(t *testing.T) {
	var b api.Book
	for n := range api.MaxLeaves + 1 {
		h, e := book.Head(b)
		if e != api.OK {
			t.Fatalf("no Head of %d entries: %d", n, e)
		}
		s, e := Print(h)
		if e != api.OK {
			t.Fatalf("no Print of the head of %d entries: %d", n, e)
		}
		wantParse(t, s, h, api.OK)
		if n < api.MaxLeaves {
			b, _ = book.Put(b, api.Entry{Key: n * 5 % api.Keys, Value: "0 1 2 " + strconv.Itoa(n)})
		}
	}
}

// TestWhatIsTakenIsPrinted: whatever is parsed is just what Print writes of the head that comes out.
func TestWhatIsTakenIsPrinted(t *testing.T) {
	taken := 0
	for _, s := range texts("012 -", 8) {
		h, e := Parse(s)
		if e != api.OK {
			continue
		}
		taken++
		wantPrint(t, h, s, api.OK)
	}
	if taken == 0 {
		t.Error("nothing was taken")
	}
}

// FuzzParse: no text makes Parse panic, and what it takes is what Print writes.
func FuzzParse(f *testing.F) {
	for _, s := range []string{"", "0 0 0 ", "2 2 3 abc d", "02 2 3 abc d", "-1 2 3 abc d", "25 2 3 abc d", "0 99999999999999999999 0 "} {
		f.Add(s)
	}
	f.Fuzz(func(t *testing.T, s string) {
		h, e := Parse(s)
		if e == api.OK {
			wantPrint(t, h, s, api.OK)
		} else if h != (api.Head{}) {
			t.Errorf("Parse of %q: %s beside %d", s, tell(h), e)
		}
	})
}
