package client

import (
	"math"
	"slices"
	"strconv"
	"strings"
	"testing"

	"greatseal/api"
	"greatseal/book"
	"greatseal/show"
)

// Seals of keys without a value: of two, four and eight of them.
const (
	none2 = "N1:EE"
	none4 = "N5:N1:EEN1:EE"
	none8 = "N13:N5:N1:EEN1:EEN5:N1:EEN1:EE"
)

// far are numbers that are neither a key nor the place or the number of an entry, in whatever book.
var far = []int{-1, -2, -api.Keys, -api.MaxLeaves, api.MaxLeaves + 1, 1 << 8, 1 << 32, math.MinInt, math.MaxInt}

// long is a text of n bytes.
func long(n int) string { return strings.Repeat("x", n) }

// tell is a head told in short.
func tell(h api.Head) string {
	return strconv.Itoa(h.N) + ", " + tellText(h.Log) + ", " + tellText(h.Map)
}

func tellText(s string) string {
	if len(s) > 60 {
		return strconv.Quote(s[:60]) + ".. of " + strconv.Itoa(len(s)) + " bytes"
	}
	return strconv.Quote(s)
}

// many is a book of n good entries: by key after key, and no two values alike.
func many(n int) api.Book {
	var b api.Book
	for i := range n {
		b.E = append(b.E, api.Entry{Key: i * 5 % api.Keys, Value: "v" + strconv.Itoa(i)})
	}
	return b
}

// parted is a book of n entries that is another one from entry at on.
func parted(n, at int) api.Book {
	b := many(n)
	for i := at; i < n; i++ {
		b.E[i].Value = "w" + strconv.Itoa(i)
	}
	return b
}

// first is the book of the first m entries.
func first(b api.Book, m int) api.Book { return api.Book{E: b.E[:m]} }

// head is the Head of a book that has one.
func head(t *testing.T, b api.Book) api.Head {
	t.Helper()
	h, e := book.Head(b)
	if e != api.OK {
		t.Fatalf("no Head of %v: %d", b, e)
	}
	return h
}

// growth is what shows that the book begins with its first m entries.
func growth(t *testing.T, b api.Book, m int) []string {
	t.Helper()
	l, e := show.Growth(b, m)
	if e != api.OK {
		t.Fatalf("no Growth from %d of %v: %d", m, b, e)
	}
	return l
}

// bad are heads that are refused, and what of them is told.
func bad() map[api.Errno][]api.Head {
	over := long(api.MaxText + 1)
	l := map[api.Errno][]api.Head{
		api.ErrRange: {{N: -1, Log: over}, {N: api.MaxLeaves + 1, Map: over}},
		api.ErrMany:  {{Log: over}, {Map: over}, {N: 3, Log: over, Map: over}, {N: api.MaxLeaves, Map: over}},
	}
	for _, n := range far {
		l[api.ErrRange] = append(l[api.ErrRange], api.Head{N: n})
	}
	return l
}

// wantGood asks that the client follows: h is its head, and what it knew of lies it knows still.
func wantGood(t *testing.T, old, h api.Head, l []string) {
	t.Helper()
	for _, fooled := range []bool{false, true} {
		c, e := Follow(api.Client{H: old, Fooled: fooled}, h, l)
		if e != api.OK || c.H != h || c.Fooled != fooled {
			t.Errorf("from %s to %s by %.60q: %s %t %d, want it followed, %t", tell(old), tell(h), l, tell(c.H), c.Fooled, e, fooled)
		}
	}
}

// wantFalse asks that the client doesn't follow: it has the head that it had, and is Fooled.
func wantFalse(t *testing.T, old, h api.Head, l []string) {
	t.Helper()
	for _, fooled := range []bool{false, true} {
		c, e := Follow(api.Client{H: old, Fooled: fooled}, h, l)
		if e != api.ErrFalse || c.H != old || !c.Fooled {
			t.Errorf("from %s to %s by %.60q: %s %t %d, want the old head, fooled", tell(old), tell(h), l, tell(c.H), c.Fooled, e)
		}
	}
}

// wantError asks for that error alone, of a client that was Fooled too.
func wantError(t *testing.T, old, h api.Head, l []string, want api.Errno) {
	t.Helper()
	for _, fooled := range []bool{false, true} {
		c, e := Follow(api.Client{H: old, Fooled: fooled}, h, l)
		if e != want || c != (api.Client{}) {
			t.Errorf("from %s to %s by %.60q: %s %t %d, want %d alone", tell(old), tell(h), l, tell(c.H), c.Fooled, e, want)
		}
	}
}

// TestFollow: heads and seals written out by hand.
func TestFollow(t *testing.T) {
	one := api.Head{N: 1, Log: "La", Map: "m"}
	two := api.Head{N: 2, Log: "N2:LaLb", Map: "n"}
	three := api.Head{N: 3, Log: "N7:N2:LaLbLc", Map: "o"}
	four := api.Head{N: 4, Log: "N7:N2:LaLbN2:LcLd", Map: "p"}
	wantGood(t, one, two, []string{"Lb"})
	wantGood(t, one, three, []string{"Lb", "Lc"})
	wantGood(t, two, three, []string{"Lc"})
	wantGood(t, three, four, []string{"Lc", "Ld", "N2:LaLb"})
	wantFalse(t, one, two, nil)
	wantFalse(t, one, two, []string{"Lc"})
	wantFalse(t, one, two, []string{"Lb", "Lb"})
	wantFalse(t, one, three, []string{"Lc", "Lb"})
	wantFalse(t, one, three, []string{"Lc"})
	wantFalse(t, api.Head{N: 1, Log: "Lb"}, two, []string{"Lb"})
	wantFalse(t, api.Head{N: 2, Log: "La"}, api.Head{N: 3, Log: "N2:LaLb"}, nil)
}

// TestFirstHead: a client that went by nothing takes any head that may be, if no seal comes with it.
func TestFirstHead(t *testing.T) {
	most := long(api.MaxText)
	heads := []api.Head{{}, {Log: "x", Map: "y"}, {N: 1}, {N: 3, Log: "no seal"}, {N: api.MaxLeaves, Log: most, Map: most}, head(t, api.Book{}), head(t, many(5))}
	for _, old := range []api.Head{{}, {Log: "a", Map: "b"}, {Log: most, Map: most}, head(t, api.Book{})} {
		for _, h := range heads {
			wantGood(t, old, h, nil)
			wantGood(t, old, h, []string{})
			wantFalse(t, old, h, []string{""})
			wantFalse(t, old, h, []string{h.Log})
			wantFalse(t, old, h, []string{"L0 v0", "E"})
		}
	}
}

// TestSameMany: a head of as many entries is followed if it is the same one, and nothing is shown beside.
func TestSameMany(t *testing.T) {
	for n := 1; n <= api.MaxLeaves; n++ {
		h := head(t, many(n))
		wantGood(t, h, h, nil)
		wantGood(t, h, h, []string{})
		wantFalse(t, h, h, []string{""})
		wantFalse(t, h, h, []string{h.Log})
		wantFalse(t, h, head(t, parted(n, n-1)), nil)
		wantFalse(t, h, api.Head{N: n, Log: h.Log + " ", Map: h.Map}, nil)
		wantFalse(t, h, api.Head{N: n, Log: h.Log, Map: h.Map + " "}, nil)
		wantFalse(t, h, api.Head{N: n, Log: h.Log}, nil)
		wantFalse(t, api.Head{N: n, Log: h.Log}, h, nil)
		wantFalse(t, h, api.Head{N: n, Log: h.Map, Map: h.Log}, nil)
	}
	// Of no more than these is asked: whether they are seals isn't.
	wantGood(t, api.Head{N: 7}, api.Head{N: 7}, nil)
	wantFalse(t, api.Head{N: 7}, api.Head{N: 7, Map: "m"}, nil)
}

// TestBooksThatGrow: each head of a book leads to each later one, and not to one of a book that had parted before.
func TestBooksThatGrow(t *testing.T) {
	for n := 1; n <= api.MaxLeaves; n++ {
		b := many(n)
		h := head(t, b)
		for m := 1; m < n; m++ {
			old, l := head(t, first(b, m)), growth(t, b, m)
			wantGood(t, old, h, l)
			wantFalse(t, old, h, l[1:])
			wantFalse(t, old, h, l[:len(l)-1])
			wantFalse(t, old, h, append(slices.Clone(l), "E"))
			wantFalse(t, old, h, append([]string{"E"}, l...))
			for at := range n {
				other := parted(n, at)
				if at < m {
					wantFalse(t, old, head(t, other), growth(t, other, m))
				} else {
					wantGood(t, old, head(t, other), growth(t, other, m))
				}
				wantFalse(t, old, head(t, other), l)
			}
		}
	}
}

// TestLaterMap: of more entries the values may be others, whatever they are; the seals show nothing of them.
func TestLaterMap(t *testing.T) {
	b := many(6)
	old, h, l := head(t, first(b, 4)), head(t, b), growth(t, b, 4)
	for _, m := range []string{"", "no seal", old.Map, h.Map, long(api.MaxText)} {
		wantGood(t, old, api.Head{N: h.N, Log: h.Log, Map: m}, l)
		wantGood(t, api.Head{N: old.N, Log: old.Log, Map: m}, h, l)
	}
}

// TestFollowOnAndOn: a client goes from head to head; once Fooled it stays so, and by its old head it goes on.
func TestFollowOnAndOn(t *testing.T) {
	b, other := many(api.MaxLeaves), parted(api.MaxLeaves, 3)
	var c api.Client
	var e api.Errno
	for n := 1; n <= api.MaxLeaves; n++ {
		var l []string
		if c.H.N > 0 {
			l = growth(t, first(b, n), c.H.N)
		}
		h := head(t, first(b, n))
		if c, e = Follow(c, h, l); e != api.OK || c != (api.Client{H: h, Fooled: n > 6}) {
			t.Fatalf("head %d: %v %d", n, c, e)
		}
		if n == 6 {
			if c, e = Follow(c, head(t, first(other, 8)), growth(t, first(other, 8), n)); e != api.ErrFalse || c != (api.Client{H: h, Fooled: true}) {
				t.Fatalf("a head of another book: %v %d", c, e)
			}
		}
	}
}

// TestLate: a head of fewer entries is late, whatever is shown beside; the client isn't Fooled by it.
func TestLate(t *testing.T) {
	for n := 1; n <= api.MaxLeaves; n++ {
		b := many(n)
		h := head(t, b)
		for m := range n {
			for _, l := range [][]string{nil, {""}, {h.Log}} {
				wantError(t, h, head(t, first(b, m)), l, api.ErrLate)
				wantError(t, h, head(t, first(parted(n, 0), m)), l, api.ErrLate)
				wantError(t, api.Head{N: n}, api.Head{N: m}, l, api.ErrLate)
			}
		}
	}
}

// TestHeadsThatMayNotBe: of the client's head is told ahead of h, and of both ahead of all else.
func TestHeadsThatMayNotBe(t *testing.T) {
	b := many(5)
	good := []api.Head{{}, {N: api.MaxLeaves}, head(t, b), head(t, first(b, 3))}
	for want, heads := range bad() {
		for _, wrong := range heads {
			for _, l := range [][]string{nil, {"E"}} {
				for _, h := range good {
					wantError(t, wrong, h, l, want)
					wantError(t, h, wrong, l, want)
				}
				for _, others := range bad() {
					for _, h := range others {
						wantError(t, wrong, h, l, want)
					}
				}
			}
		}
	}
}

// TestNodesTooLong: seals that no Node can be made of show nothing; that is no error of another kind.
func TestNodesTooLong(t *testing.T) {
	most := long(api.MaxText)
	one, two := api.Head{N: 1, Log: "La"}, api.Head{N: 2, Log: most}
	wantFalse(t, one, two, []string{most})
	wantFalse(t, one, two, []string{long(2 * api.MaxText)})
	wantFalse(t, api.Head{N: 1, Log: most}, two, []string{"Lb"})
	wantFalse(t, api.Head{N: 3, Log: most}, api.Head{N: 4, Log: most}, []string{most, most, most})
	// A Node of as much as may be, but its own mark makes it longer than a head's Log may be.
	wantError(t, one, api.Head{N: 2, Log: "N2:La" + long(api.MaxText-2)}, []string{long(api.MaxText - 2)}, api.ErrMany)
	fits := long(api.MaxText - len("N2:La"))
	wantGood(t, one, api.Head{N: 2, Log: "N2:La" + fits}, []string{fits})
}

// sees asks what a client of that head sees, whether it is Fooled or not.
func sees(t *testing.T, h api.Head, i int, x api.Entry, l []api.Step, want api.Errno) {
	t.Helper()
	for _, fooled := range []bool{false, true} {
		if e := Sees(api.Client{H: h, Fooled: fooled}, i, x, l); e != want {
			t.Errorf("by %s entry %d is %s by %d steps: %d, want %d", tell(h), i, tellText(book.Text(x)), len(l), e, want)
		}
	}
}

// TestSees: heads and steps written out by hand.
func TestSees(t *testing.T) {
	h := api.Head{N: 3, Log: "N11:N4:L5 xL9 yL5 z"}
	steps := []api.Step{{Left: true, Seal: "L5 x"}, {Seal: "L5 z"}}
	y := api.Entry{Key: 9, Value: "y"}
	sees(t, h, 1, y, steps, api.OK)
	sees(t, h, 1, api.Entry{Key: 9, Value: "x"}, steps, api.ErrFalse)
	sees(t, h, 1, api.Entry{Key: 8, Value: "y"}, steps, api.ErrFalse)
	sees(t, h, 0, y, steps, api.ErrFalse)
	sees(t, h, 2, y, steps, api.ErrFalse)
	sees(t, h, 1, y, nil, api.ErrFalse)
	sees(t, h, 1, y, steps[:1], api.ErrFalse)
	sees(t, h, 3, y, steps, api.ErrWho)
	sees(t, h, 2, api.Entry{Key: 5, Value: "z"}, []api.Step{{Left: true, Seal: "N4:L5 xL9 y"}}, api.OK)
	// The Log is asked, not the Map, and as many entries as the head says.
	sees(t, api.Head{N: 3, Map: h.Log}, 1, y, steps, api.ErrFalse)
	sees(t, api.Head{N: 5, Log: h.Log}, 1, y, steps, api.ErrFalse)
	sees(t, api.Head{N: 1, Log: h.Log}, 1, y, steps, api.ErrWho)
	sees(t, api.Head{N: 1, Log: "L0 "}, 0, api.Entry{}, nil, api.OK)
	// The entry is as it is told: Check isn't asked of it.
	sees(t, api.Head{N: 1, Log: "L-7 " + long(40)}, 0, api.Entry{Key: -7, Value: long(40)}, []api.Step{}, api.OK)
}

// TestSeesAll: each entry of a book is seen by its Head, and by a parted book's no more than is alike.
func TestSeesAll(t *testing.T) {
	for n := 1; n <= api.MaxLeaves; n++ {
		b := many(n)
		h, other := head(t, b), head(t, parted(n, n/2))
		for i := range n {
			x, l, e := show.Entry(b, i)
			if e != api.OK {
				t.Fatalf("no Entry %d of %v: %d", i, b, e)
			}
			sees(t, h, i, x, l, api.OK)
			sees(t, h, i, api.Entry{Key: x.Key, Value: x.Value + "!"}, l, api.ErrFalse)
			sees(t, h, n, x, l, api.ErrWho)
			sees(t, other, i, x, l, api.ErrFalse)
		}
	}
}

// TestSeesErrors: of the head, of there being no entry, of the place, of the steps, of the text, in this order.
func TestSeesErrors(t *testing.T) {
	big := api.Entry{Value: long(api.MaxText - 1)}
	step := []api.Step{{Seal: "E"}}
	for want, heads := range bad() {
		for _, h := range heads {
			for _, i := range append([]int{0, 3}, far...) {
				sees(t, h, i, big, step, want)
			}
		}
	}
	for _, h := range []api.Head{{}, {Log: "L0 ", Map: "x"}, head(t, api.Book{})} {
		for _, i := range append([]int{0}, far...) {
			sees(t, h, i, big, step, api.ErrRange)
		}
	}
	for _, i := range append([]int{1}, far...) {
		sees(t, api.Head{N: 1, Log: "L0 "}, i, big, step, api.ErrWho)
	}
	sees(t, api.Head{N: 1, Log: "L0 "}, 0, big, step, api.ErrFalse)
	sees(t, api.Head{N: 1, Log: "L0 "}, 0, big, nil, api.ErrMany)
	sees(t, api.Head{N: 2, Log: "L0 "}, 0, big, step, api.ErrMany)
	sees(t, api.Head{N: 2, Log: "L0 "}, 0, api.Entry{}, []api.Step{{Seal: long(api.MaxText)}}, api.ErrMany)
	sees(t, api.Head{N: 2, Log: "L0 "}, 0, api.Entry{}, []api.Step{{Left: true, Seal: long(api.MaxText)}}, api.ErrFalse)
}

// finds asks what a client of that head finds, whether it is Fooled or not.
func finds(t *testing.T, h api.Head, key int, value string, there bool, l []string, want api.Errno) {
	t.Helper()
	for _, fooled := range []bool{false, true} {
		if e := Finds(api.Client{H: h, Fooled: fooled}, key, value, there, l); e != want {
			t.Errorf("by %s key %d has %.60q, %t, by %.60q: %d, want %d", tell(h), key, value, there, l, e, want)
		}
	}
}

// TestFinds: heads and seals written out by hand.
func TestFinds(t *testing.T) {
	all := "N31:N14:N6:N2:LxE" + none2 + none4 + none8
	h, l := api.Head{N: 1, Map: all}, []string{"E", none2, none4, none8}
	finds(t, h, 0, "x", true, l, api.OK)
	finds(t, h, 0, "y", true, l, api.ErrFalse)
	finds(t, h, 0, "", false, l, api.ErrFalse)
	finds(t, h, 1, "x", true, l, api.ErrFalse)
	finds(t, h, 0, "x", true, nil, api.ErrFalse)
	finds(t, h, 0, "x", true, l[:3], api.ErrFalse)
	finds(t, h, 1, "", false, []string{"Lx", none2, none4, none8}, api.OK)
	finds(t, h, 1, "", true, []string{"Lx", none2, none4, none8}, api.ErrFalse)
	// The Map is asked, neither the Log nor how many entries there are.
	finds(t, api.Head{N: 1, Log: all}, 0, "x", true, l, api.ErrFalse)
	finds(t, api.Head{N: 0, Map: all}, 0, "x", true, l, api.OK)
	finds(t, api.Head{N: api.MaxLeaves, Log: "y", Map: all}, 0, "x", true, l, api.OK)
	finds(t, head(t, api.Book{}), 0, "", false, l, api.OK)
	finds(t, api.Head{}, 0, "", false, l, api.ErrFalse)
}

// TestFindsAll: each key's value, or that there is none, is found by the Head of the book, and nothing else is.
func TestFindsAll(t *testing.T) {
	for n := range api.MaxLeaves + 1 {
		b := many(n)
		h := head(t, b)
		for key := range api.Keys {
			v, there, l, e := show.Value(b, key)
			if e != api.OK {
				t.Fatalf("no Value by %d of %v: %d", key, b, e)
			}
			finds(t, h, key, v, there, l, api.OK)
			finds(t, h, key, v+"!", true, l, api.ErrFalse)
			finds(t, h, key, "", !there, l, api.ErrFalse)
			if n > 0 {
				finds(t, head(t, parted(n, n-1)), key, v, there, l, api.ErrFalse)
				finds(t, head(t, first(b, n-1)), key, v, there, l, api.ErrFalse)
			}
		}
	}
}

// TestFindsErrors: of the head, of the key, of the value, of the seals, in this order.
func TestFindsErrors(t *testing.T) {
	most := long(api.MaxText)
	for want, heads := range bad() {
		for _, h := range heads {
			for _, key := range append([]int{0, api.Keys}, far...) {
				finds(t, h, key, "x", false, nil, want)
			}
		}
	}
	h := head(t, many(3))
	for _, key := range append([]int{api.Keys}, far...) {
		finds(t, h, key, "x", false, nil, api.ErrWho)
	}
	finds(t, h, 0, "x", false, nil, api.ErrForm)
	finds(t, h, 0, most+"x", true, nil, api.ErrFalse)
	finds(t, h, 0, most+"x", true, make([]string, api.Bits), api.ErrMany)
	finds(t, h, 0, "x", true, []string{most, "", "", ""}, api.ErrMany)
	finds(t, h, 0, "x", true, make([]string, api.Bits), api.ErrFalse)
	finds(t, h, 0, "x", true, make([]string, api.Bits+1), api.ErrFalse)
}

// TestOnlyReads: neither the lists nor the room behind them are changed, by calls that answer an error either.
func TestOnlyReads(t *testing.T) {
	b := many(13)
	for m := 1; m <= 13; m++ {
		seals := append(growth(t, b, m), "behind", "all")
		_, steps, _ := show.Entry(b, m-1)
		steps = append(steps, api.Step{Left: true, Seal: "behind"})
		_, _, l, _ := show.Value(b, m)
		l = append(l, "behind")
		keptSeals, keptSteps, keptL := slices.Clone(seals), slices.Clone(steps), slices.Clone(l)
		c := api.Client{H: head(t, first(b, m))}
		for cut := range len(seals) {
			Follow(c, head(t, b), seals[:cut])
		}
		for cut := range len(steps) {
			Sees(c, m-1, b.E[m-1], steps[:cut])
		}
		for cut := range len(l) {
			Finds(c, m, "", false, l[:cut])
		}
		if !slices.Equal(seals, keptSeals) || !slices.Equal(steps, keptSteps) || !slices.Equal(l, keptL) {
			t.Fatalf("the lists of %d are changed: %q %v %q", m, seals, steps, l)
		}
	}
}

// FuzzFollow: whatever the heads are, no call panics, and the client has one of the two heads, or none.
func FuzzFollow(f *testing.F) {
	f.Add(1, "La", "m", 2, "N2:LaLb", "n", "Lb", true)
	f.Add(0, "", "", 0, "", "", "", false)
	f.Add(3, "N7:N2:LaLbLc", "", 4, "N7:N2:LaLbN2:LcLd", "", "Lc,Ld,N2:LaLb", true)
	f.Add(-1, "", "", math.MaxInt, "", "", ",", true)
	f.Fuzz(func(t *testing.T, m int, log, all string, n int, newLog, newAll, seals string, some bool) {
		var l []string
		if some {
			l = strings.Split(seals, ",")
		}
		old, h := api.Head{N: m, Log: log, Map: all}, api.Head{N: n, Log: newLog, Map: newAll}
		c, e := Follow(api.Client{H: old}, h, l)
		want := api.Client{}
		switch e {
		case api.OK:
			want = api.Client{H: h}
		case api.ErrFalse:
			want = api.Client{H: old, Fooled: true}
		}
		if c != want || e == api.OK && n < m {
			t.Errorf("from %s to %s by %q: %v %d", tell(old), tell(h), l, c, e)
		}
		Sees(api.Client{H: old}, n, api.Entry{Key: m, Value: newLog}, []api.Step{{Left: some, Seal: seals}})
		Finds(api.Client{H: old}, n, newLog, some, l)
	})
}
