package meet

import (
	"math"
	"slices"
	"strconv"
	"strings"
	"testing"

	"greatseal/api"
	"greatseal/book"
	"greatseal/show"
)

// long is a text of n bytes.
func long(n int) string { return strings.Repeat("x", n) }

// tell is a head told in short.
func tell(h api.Head) string {
	return strconv.Itoa(h.N) + ", " + tellText(h.Log) + ", " + tellText(h.Map)
}

func tellText(s string) string {
	if len(s) > 60 {
		return strconv.Quote(s[:60]) + ".. of " + strconv.Itoa(len(s)) + " bytes"
	}
	return strconv.Quote(s)
}

// many is a book of n good entries: by key after key, and no two values alike.
func many(n int) api.Book {
	var b api.Book
	for i := range n {
		b.E = append(b.E, api.Entry{Key: i * 5 % api.Keys, Value: "v" + strconv.Itoa(i)})
	}
	return b
}

// parted is a book of n entries that is another one from entry at on.
func parted(n, at int) api.Book {
	b := many(n)
	for i := at; i < n; i++ {
		b.E[i].Value = "w" + strconv.Itoa(i)
	}
	return b
}

// first is the book of the first m entries.
func first(b api.Book, m int) api.Book { return api.Book{E: b.E[:m]} }

// head is the Head of a book that has one.
func head(t *testing.T, b api.Book) api.Head {
	t.Helper()
	h, e := book.Head(b)
	if e != api.OK {
		t.Fatalf("no Head of %v: %d", b, e)
	}
	return h
}

// growth is what shows that the book begins with its first m entries.
func growth(t *testing.T, b api.Book, m int) []string {
	t.Helper()
	l, e := show.Growth(b, m)
	if e != api.OK {
		t.Fatalf("no Growth from %d of %v: %d", m, b, e)
	}
	return l
}

// wantOne asks what is told of two heads in this order.
func wantOne(t *testing.T, a, b api.Head, l []string, want api.Errno) {
	t.Helper()
	if e := Same(a, b, l); e != want {
		t.Errorf("%s and %s by %.60q: %d, want %d", tell(a), tell(b), l, e, want)
	}
}

// wantBoth asks it whichever of the two comes first.
func wantBoth(t *testing.T, a, b api.Head, l []string, want api.Errno) {
	t.Helper()
	wantOne(t, a, b, l, want)
	wantOne(t, b, a, l, want)
}

// TestSame: heads and seals written out by hand.
func TestSame(t *testing.T) {
	one := api.Head{N: 1, Log: "La", Map: "m"}
	two := api.Head{N: 2, Log: "N2:LaLb", Map: "n"}
	three := api.Head{N: 3, Log: "N7:N2:LaLbLc", Map: "o"}
	four := api.Head{N: 4, Log: "N7:N2:LaLbN2:LcLd", Map: "p"}
	wantBoth(t, one, two, []string{"Lb"}, api.OK)
	wantBoth(t, one, three, []string{"Lb", "Lc"}, api.OK)
	wantBoth(t, two, three, []string{"Lc"}, api.OK)
	wantBoth(t, three, four, []string{"Lc", "Ld", "N2:LaLb"}, api.OK)
	wantBoth(t, four, four, nil, api.OK)
	wantBoth(t, one, two, nil, api.ErrFalse)
	wantBoth(t, one, two, []string{"Lc"}, api.ErrFalse)
	wantBoth(t, one, two, []string{"Lb", "Lb"}, api.ErrFalse)
	wantBoth(t, one, three, []string{"Lc", "Lb"}, api.ErrFalse)
	wantBoth(t, api.Head{N: 1, Log: "Lb"}, two, []string{"Lb"}, api.ErrFalse)
	// How many entries there are is read from N, not from Log.
	wantBoth(t, api.Head{N: 2, Log: "La"}, api.Head{N: 1, Log: "N2:LaLb"}, []string{"Lb"}, api.ErrFalse)
	wantBoth(t, api.Head{N: 2, Log: "La"}, api.Head{N: 3, Log: "N2:LaLb"}, []string{"Lb"}, api.OK)
	wantBoth(t, api.Head{N: 1, Log: "La"}, api.Head{N: 3, Log: "N2:LaLb"}, []string{"Lb"}, api.ErrFalse)
}

// TestNothing: a head of no entries goes with any other that may be, of no entries too, if no seal is beside them.
func TestNothing(t *testing.T) {
	most := long(api.MaxText)
	heads := []api.Head{{}, {Log: "x", Map: "y"}, {Log: most}, {N: 1}, {N: 3, Log: "no seal"}, {N: api.MaxLeaves, Log: most, Map: most}, head(t, api.Book{}), head(t, many(5))}
	for _, a := range []api.Head{{}, {Log: "a", Map: "b"}, {Log: most, Map: most}, head(t, api.Book{})} {
		for _, b := range heads {
			wantBoth(t, a, b, nil, api.OK)
			wantBoth(t, a, b, []string{}, api.OK)
			wantBoth(t, a, b, []string{""}, api.ErrFalse)
			wantBoth(t, a, b, []string{a.Log}, api.ErrFalse)
			wantBoth(t, a, b, []string{b.Log}, api.ErrFalse)
			wantBoth(t, a, b, []string{"L0 v0", "E"}, api.ErrFalse)
		}
	}
	// Of one entry it is no more so.
	wantBoth(t, api.Head{N: 1, Log: "a"}, api.Head{N: 1, Log: "b"}, nil, api.ErrFalse)
}

// TestSameMany: heads of as many entries, but for none, go together if they are one head, and nothing is beside.
func TestSameMany(t *testing.T) {
	for n := 1; n <= api.MaxLeaves; n++ {
		h := head(t, many(n))
		wantBoth(t, h, h, nil, api.OK)
		wantBoth(t, h, h, []string{}, api.OK)
		wantBoth(t, h, h, []string{""}, api.ErrFalse)
		wantBoth(t, h, h, []string{h.Log}, api.ErrFalse)
		wantBoth(t, h, api.Head{N: n, Log: h.Log + " ", Map: h.Map}, nil, api.ErrFalse)
		wantBoth(t, h, api.Head{N: n, Log: h.Log, Map: h.Map + " "}, nil, api.ErrFalse)
		wantBoth(t, h, api.Head{N: n, Log: h.Log}, nil, api.ErrFalse)
		wantBoth(t, h, api.Head{N: n, Map: h.Map}, nil, api.ErrFalse)
		wantBoth(t, h, api.Head{N: n, Log: h.Map, Map: h.Log}, nil, api.ErrFalse)
	}
	// Of no more than these is asked: whether they are seals isn't.
	wantBoth(t, api.Head{N: 7}, api.Head{N: 7}, nil, api.OK)
	wantBoth(t, api.Head{N: 7}, api.Head{N: 7, Map: "m"}, nil, api.ErrFalse)
}

// TestOneBook: any two heads of one book go together by its Growth, and by no other seals.
func TestOneBook(t *testing.T) {
	for n := 1; n <= api.MaxLeaves; n++ {
		b := many(n)
		h := head(t, b)
		for m := 1; m < n; m++ {
			old, l := head(t, first(b, m)), growth(t, b, m)
			wantBoth(t, old, h, l, api.OK)
			wantBoth(t, old, h, nil, api.ErrFalse)
			wantBoth(t, old, h, l[1:], api.ErrFalse)
			wantBoth(t, old, h, l[:len(l)-1], api.ErrFalse)
			wantBoth(t, old, h, append(slices.Clone(l), "E"), api.ErrFalse)
			wantBoth(t, old, h, append([]string{"E"}, l...), api.ErrFalse)
		}
	}
}

// TestBooksThatParted: heads that both go on behind the parting don't go together, by the Growth of neither book; where one is no longer than what is alike, they do by that of the other.
func TestBooksThatParted(t *testing.T) {
	for at := range api.MaxLeaves {
		mine, other := many(api.MaxLeaves), parted(api.MaxLeaves, at)
		for m := 1; m <= api.MaxLeaves; m++ {
			for n := m; n <= api.MaxLeaves; n++ {
				a, b := head(t, first(mine, m)), head(t, first(other, n))
				want := api.ErrFalse
				if m <= at {
					want = api.OK
				}
				wantBoth(t, a, b, growth(t, first(other, n), m), want)
				if n > at {
					// Nor does what the book of a goes on with show anything of b, but where that is nothing.
					if m < n || m > at {
						wantBoth(t, a, b, growth(t, first(mine, n), m), api.ErrFalse)
					}
					wantBoth(t, a, b, []string{b.Log}, api.ErrFalse)
				}
			}
		}
	}
}

// TestTheyKnow: the document's example: five entries each, of books that parted at three.
func TestTheyKnow(t *testing.T) {
	a, b := head(t, many(5)), head(t, parted(5, 3))
	for m := 1; m <= 5; m++ {
		wantBoth(t, a, b, growth(t, many(5), m), api.ErrFalse)
		wantBoth(t, a, b, growth(t, parted(5, 3), m), api.ErrFalse)
	}
	wantBoth(t, a, b, nil, api.ErrFalse)
	// Who had seen three knows nothing yet.
	wantBoth(t, a, head(t, first(parted(5, 3), 3)), growth(t, many(5), 3), api.OK)
	wantBoth(t, b, head(t, first(many(5), 3)), growth(t, parted(5, 3), 3), api.OK)
}

// TestOtherMap: of more entries the values may be others, whatever they are; the seals show nothing of them.
func TestOtherMap(t *testing.T) {
	b := many(6)
	old, h, l := head(t, first(b, 4)), head(t, b), growth(t, b, 4)
	for _, m := range []string{"", "no seal", old.Map, h.Map, long(api.MaxText)} {
		wantBoth(t, old, api.Head{N: h.N, Log: h.Log, Map: m}, l, api.OK)
		wantBoth(t, api.Head{N: old.N, Log: old.Log, Map: m}, h, l, api.OK)
	}
}

// bad are heads that are refused, and what of them is told.
func bad() map[api.Errno][]api.Head {
	over := long(api.MaxText + 1)
	l := map[api.Errno][]api.Head{
		api.ErrRange: {{N: -1, Log: over}, {N: api.MaxLeaves + 1, Map: over}},
		api.ErrMany:  {{Log: over}, {Map: over}, {N: 3, Log: over, Map: over}, {N: api.MaxLeaves, Map: over}},
	}
	for _, n := range []int{-1, -2, -api.MaxLeaves, api.MaxLeaves + 1, 1 << 8, 1 << 32, math.MinInt, math.MaxInt} {
		l[api.ErrRange] = append(l[api.ErrRange], api.Head{N: n})
	}
	return l
}

// TestHeadsThatMayNotBe: of a is told ahead of b, whichever has fewer entries, and of both ahead of all else.
func TestHeadsThatMayNotBe(t *testing.T) {
	good := []api.Head{{}, {N: api.MaxLeaves}, head(t, many(5)), head(t, many(3))}
	for want, heads := range bad() {
		for _, wrong := range heads {
			for _, l := range [][]string{nil, {"E"}} {
				for _, h := range good {
					wantBoth(t, wrong, h, l, want)
				}
				for _, others := range bad() {
					for _, h := range others {
						wantOne(t, wrong, h, l, want)
					}
				}
			}
		}
	}
}

// TestNodesTooLong: seals that no Node can be made of show nothing; that is no error of another kind.
func TestNodesTooLong(t *testing.T) {
	most := long(api.MaxText)
	one, two := api.Head{N: 1, Log: "La"}, api.Head{N: 2, Log: most}
	wantBoth(t, one, two, []string{most}, api.ErrFalse)
	wantBoth(t, one, two, []string{long(2 * api.MaxText)}, api.ErrFalse)
	wantBoth(t, api.Head{N: 1, Log: most}, two, []string{"Lb"}, api.ErrFalse)
	wantBoth(t, api.Head{N: 3, Log: most}, api.Head{N: 4, Log: most}, []string{most, most, most}, api.ErrFalse)
	fits := long(api.MaxText - len("N2:La"))
	wantBoth(t, one, api.Head{N: 2, Log: "N2:La" + fits}, []string{fits}, api.OK)
	wantBoth(t, one, api.Head{N: 2, Log: "N2:La" + fits + "x"}, []string{fits + "x"}, api.ErrMany)
}

// TestOnlyReads: neither the list nor the room behind it is changed, by calls that answer an error either.
func TestOnlyReads(t *testing.T) {
	b := many(13)
	h := head(t, b)
	for m := 1; m <= 13; m++ {
		l := append(growth(t, b, m), "behind", "all")
		kept := slices.Clone(l)
		old := head(t, first(b, m))
		for cut := range len(l) {
			Same(old, h, l[:cut])
			Same(h, old, l[:cut])
			Same(api.Head{}, h, l[:cut])
		}
		if !slices.Equal(l, kept) {
			t.Fatalf("the list of %d is changed: %q", m, l)
		}
	}
}

// FuzzSame: whatever the heads are, no call panics, and their order changes nothing but which wrong head is told of.
func FuzzSame(f *testing.F) {
	f.Add(1, "La", "m", 2, "N2:LaLb", "n", "Lb", true)
	f.Add(0, "", "", 0, "", "", "", false)
	f.Add(4, "N7:N2:LaLbN2:LcLd", "", 3, "N7:N2:LaLbLc", "", "Lc,Ld,N2:LaLb", true)
	f.Add(-1, "", "", math.MaxInt, "", "", ",", true)
	f.Fuzz(func(t *testing.T, m int, log, all string, n int, otherLog, otherAll, seals string, some bool) {
		var l []string
		if some {
			l = strings.Split(seals, ",")
		}
		a, b := api.Head{N: m, Log: log, Map: all}, api.Head{N: n, Log: otherLog, Map: otherAll}
		e, back := Same(a, b, l), Same(b, a, l)
		told := e == api.OK || e == api.ErrFalse
		if told && back != e || !told && e != api.ErrRange && e != api.ErrMany {
			t.Errorf("%s and %s by %q: %d, and %d the other way round", tell(a), tell(b), l, e, back)
		}
	})
}
