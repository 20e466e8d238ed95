package world

import (
	"fmt"
	"math"
	"slices"
	"strconv"
	"strings"
	"testing"

	"greatseal/api"
	"greatseal/book"
)

// far are numbers that are neither a key nor a side, a client or a kind.
var far = []int{-1, -2, -api.Keys, api.Keys, api.MaxLeaves + 1, 1 << 8, 1<<8 + 1, 1 << 32, 1<<32 + 1, math.MinInt, math.MaxInt}

// long is a text of n bytes.
func long(n int) string { return strings.Repeat("x", n) }

// many is a book of n good entries: by key after key, and no two values alike.
func many(n int) api.Book {
	var b api.Book
	for i := range n {
		b.E = append(b.E, api.Entry{Key: i * 5 % api.Keys, Value: "v" + strconv.Itoa(i)})
	}
	return b
}

// parted is a book of n entries that is another one from entry at on.
func parted(n, at int) api.Book {
	b := many(n)
	for i := at; i < n; i++ {
		b.E[i].Value = "w" + strconv.Itoa(i)
	}
	return b
}

// first is the book of the first m entries.
func first(b api.Book, m int) api.Book { return api.Book{E: b.E[:m]} }

// bookOf is the book of these entries.
func bookOf(l ...api.Entry) api.Book { return api.Book{E: l} }

// head is the Head of a book that has one.
func head(t *testing.T, b api.Book) api.Head {
	t.Helper()
	h, e := book.Head(b)
	if e != api.OK {
		t.Fatalf("no Head of %v: %d", b, e)
	}
	return h
}

// worldOf is the world of these books, the first clients going by these heads.
func worldOf(one, two api.Book, heads ...api.Head) api.World {
	w := New()
	w.B = [2]api.Book{one, two}
	for i, h := range heads {
		w.C[i].H = h
	}
	return w
}

// fooled is the world with these clients Fooled, too.
func fooled(w api.World, who ...int) api.World {
	w.C = slices.Clone(w.C)
	for _, i := range who {
		w.C[i].Fooled = true
	}
	return w
}

// kept is the world in lists of its own, to hold a later one against.
func kept(w api.World) api.World {
	return api.World{B: [2]api.Book{{E: slices.Clone(w.B[0].E)}, {E: slices.Clone(w.B[1].E)}}, C: slices.Clone(w.C)}
}

// isNothing says whether a world has nothing in it, not even an empty list.
func isNothing(w api.World) bool { return w.B[0].E == nil && w.B[1].E == nil && w.C == nil }

// tell is a world told without filling the screen.
func tell(w api.World) string {
	s := fmt.Sprintf("%+v", w)
	if len(s) > 400 {
		return s[:400] + ".."
	}
	return s
}

func puts(side, key int, value string) api.Happening {
	return api.Happening{Kind: api.HPut, Side: side, E: api.Entry{Key: key, Value: value}}
}

func forks() api.Happening { return api.Happening{Kind: api.HFork} }

func shown(who, side int) api.Happening {
	return api.Happening{Kind: api.HShow, Who: who, Side: side}
}

func meets(who, other int) api.Happening {
	return api.Happening{Kind: api.HMeet, Who: who, Other: other}
}

func asks(who, side, key int) api.Happening {
	return api.Happening{Kind: api.HAsk, Who: who, Side: side, E: api.Entry{Key: key}}
}

// wantDo asks that x leads from w to want, and leaves w as it is.
func wantDo(t *testing.T, w api.World, x api.Happening, want api.World) {
	t.Helper()
	was := kept(w)
	if got, e := Do(w, x); e != api.OK || !Same(got, want) {
		t.Errorf("%+v of %s: %s %d, want %s", x, tell(w), tell(got), e, tell(want))
	}
	if !Same(w, was) {
		t.Errorf("%+v changes the world that is handed in", x)
	}
}

// wantNothing asks that nothing changes by x.
func wantNothing(t *testing.T, w api.World, x api.Happening) {
	t.Helper()
	wantDo(t, w, x, kept(w))
}

// wantError asks for that error alone.
func wantError(t *testing.T, w api.World, x api.Happening, want api.Errno) {
	t.Helper()
	was := kept(w)
	if got, e := Do(w, x); e != want || !isNothing(got) {
		t.Errorf("%+v of %s: %s %d, want %d alone", x, tell(w), tell(got), e, want)
	}
	if !Same(w, was) {
		t.Errorf("%+v changes the world that is handed in", x)
	}
}

// kinds are happenings of each kind that any good world takes or answers an error to, but never ErrForm.
func kinds() []api.Happening {
	return []api.Happening{puts(1, 3, "x"), forks(), shown(2, 1), meets(0, 2), asks(1, 0, 5)}
}

// bad are worlds that are refused, and what of them is told.
func bad() map[api.Errno][]api.World {
	who, much := api.Entry{Key: api.Keys}, api.Entry{Value: long(api.MaxValue + 1)}
	over := long(api.MaxText + 1)
	l := map[api.Errno][]api.World{
		// Of each book, of the first one ahead of the second.
		api.ErrWho: {worldOf(bookOf(who), many(3)), worldOf(many(3), bookOf(api.Entry{}, who)), worldOf(bookOf(who), bookOf(much)), worldOf(bookOf(api.Entry{Key: -1}), many(25))},
		api.ErrMany: {
			worldOf(bookOf(much), many(3)), worldOf(many(3), bookOf(api.Entry{}, much)), worldOf(bookOf(much), bookOf(who)),
			worldOf(many(api.MaxLeaves+1), bookOf(who)), worldOf(api.Book{}, many(api.MaxLeaves+1)), worldOf(many(1000), many(1000)),
		},
	}
	// Of the books ahead of the clients, of how many there are ahead of each of them.
	for e := range l {
		for _, w := range slices.Clone(l[e]) {
			l[e] = append(l[e], api.World{B: w.B}, api.World{B: w.B, C: []api.Client{{H: api.Head{N: -1}}}}, worldOf(w.B[0], w.B[1], api.Head{N: -1, Log: over}))
		}
	}
	for _, n := range []int{0, 1, api.MaxClients - 1, api.MaxClients + 1, 100} {
		l[api.ErrForm] = append(l[api.ErrForm], api.World{C: make([]api.Client, n)}, api.World{B: [2]api.Book{many(3), many(4)}, C: slices.Repeat([]api.Client{{H: api.Head{N: -1, Log: over}}}, n)})
	}
	l[api.ErrForm] = append(l[api.ErrForm], api.World{}, api.World{C: make([]api.Client, api.MaxClients)[:api.MaxClients-1]})
	below, above, longLog, longMap := api.Head{N: -1, Log: over}, api.Head{N: api.MaxLeaves + 1, Map: over}, api.Head{Log: over}, api.Head{N: 3, Map: over}
	for i := range api.MaxClients {
		good := make([]api.Head, i)
		l[api.ErrRange] = append(l[api.ErrRange], worldOf(many(3), many(2), append(good, below)...), worldOf(many(3), many(2), append(good, above)...))
		l[api.ErrMany] = append(l[api.ErrMany], worldOf(many(3), many(2), append(good, longLog)...), worldOf(many(3), many(2), append(good, longMap)...))
	}
	// Of two wrong heads of the first one.
	l[api.ErrRange] = append(l[api.ErrRange], worldOf(api.Book{}, api.Book{}, below, longLog), worldOf(api.Book{}, api.Book{}, api.Head{}, above, longMap))
	l[api.ErrMany] = append(l[api.ErrMany], worldOf(api.Book{}, api.Book{}, longLog, below), worldOf(api.Book{}, api.Book{}, api.Head{}, longMap, above))
	return l
}

func TestNew(t *testing.T) {
	w := New()
	if len(w.B[0].E) != 0 || len(w.B[1].E) != 0 || !slices.Equal(w.C, make([]api.Client, api.MaxClients)) {
		t.Errorf("New: %v", w)
	}
	if e := Check(w); e != api.OK {
		t.Errorf("Check of New: %d", e)
	}
	w.C[1].Fooled = true
	if New().C[1].Fooled {
		t.Error("two answers of New are one")
	}
}

func TestCheck(t *testing.T) {
	most := long(api.MaxText)
	full := slices.Repeat([]api.Entry{{Key: api.Keys - 1, Value: long(api.MaxValue)}}, api.MaxLeaves)
	for _, w := range []api.World{
		{C: make([]api.Client, api.MaxClients)},
		{B: [2]api.Book{{E: []api.Entry{}}, {}}, C: make([]api.Client, api.MaxClients, 9)},
		worldOf(many(api.MaxLeaves), api.Book{}, head(t, many(3))),
		worldOf(api.Book{}, api.Book{E: full}, api.Head{}, head(t, many(api.MaxLeaves))),
		fooled(worldOf(many(3), parted(5, 1), head(t, many(4))), 0, 1, 2),
		// Whether a client's head is of a book, and made of seals at all, is not asked.
		worldOf(api.Book{}, api.Book{}, api.Head{N: 7}, api.Head{Log: "x", Map: "y"}, api.Head{N: api.MaxLeaves, Log: most, Map: most}),
	} {
		if e := Check(w); e != api.OK {
			t.Errorf("Check %s: %d", tell(w), e)
		}
	}
	for want, worlds := range bad() {
		for _, w := range worlds {
			if e := Check(w); e != want {
				t.Errorf("Check %s: %d, want %d", tell(w), e, want)
			}
		}
	}
}

// others are worlds that are unlike w in one thing each.
func others(w api.World) []api.World {
	var l []api.World
	for side := range w.B {
		b := w.B[side].E
		for _, e := range [][]api.Entry{b[:len(b)-1], b[1:], append(slices.Clone(b), api.Entry{}), nil} {
			x := kept(w)
			x.B[side].E = e
			l = append(l, x)
		}
		for i := range b {
			x, y := kept(w), kept(w)
			x.B[side].E[i].Key++
			y.B[side].E[i].Value += " "
			l = append(l, x, y)
		}
	}
	for i := range w.C {
		for _, c := range []api.Client{{H: api.Head{N: 1}}, {H: api.Head{Log: "x"}}, {H: api.Head{Map: "x"}}, {Fooled: true}} {
			x := kept(w)
			x.C[i].H.N += c.H.N
			x.C[i].H.Log += c.H.Log
			x.C[i].H.Map += c.H.Map
			x.C[i].Fooled = x.C[i].Fooled != c.Fooled
			l = append(l, x)
		}
	}
	for _, c := range [][]api.Client{nil, w.C[1:], w.C[:len(w.C)-1], append(slices.Clone(w.C), api.Client{})} {
		x := kept(w)
		x.C = c
		l = append(l, x)
	}
	turned := kept(w)
	turned.B[0], turned.B[1] = turned.B[1], turned.B[0]
	return append(l, turned)
}

func TestSame(t *testing.T) {
	worlds := []api.World{
		worldOf(many(1), many(2), head(t, many(1))),
		fooled(worldOf(many(5), parted(5, 3), head(t, many(5)), head(t, parted(5, 3))), 0, 2),
	}
	// Worlds that Check refuses are alike or not as good ones are.
	for _, more := range bad() {
		for _, w := range more {
			if len(w.B[0].E) > 0 && len(w.B[1].E) > 0 && len(w.B[0].E) < 50 && len(w.C) > 1 && !slices.Equal(w.B[0].E, w.B[1].E) {
				worlds = append(worlds, w)
			}
		}
	}
	for _, w := range worlds {
		if !Same(w, w) || !Same(w, kept(w)) || !Same(kept(w), w) {
			t.Errorf("%s isn't as itself", tell(w))
		}
		for _, x := range others(w) {
			if Same(w, x) || Same(x, w) {
				t.Errorf("%s is as %s", tell(w), tell(x))
			}
		}
	}
	if len(worlds) < 20 {
		t.Errorf("only %d worlds were tried", len(worlds))
	}
}

// TestSameOfNothing: a list that has nothing in it may be nil or empty, and the room behind a list is not of the world.
func TestSameOfNothing(t *testing.T) {
	empty := api.World{B: [2]api.Book{{E: []api.Entry{}}, {E: []api.Entry{}}}, C: []api.Client{}}
	room := api.World{B: [2]api.Book{first(many(5), 0), first(many(5), 0)}, C: fooled(New(), 0, 1, 2).C[:0]}
	for _, x := range []api.World{{}, empty, room} {
		for _, y := range []api.World{{}, empty, room} {
			if !Same(x, y) {
				t.Errorf("%v isn't as %v", x, y)
			}
		}
		if Same(x, New()) || Same(New(), x) {
			t.Errorf("%v is as New", x)
		}
	}
	if !Same(worldOf(first(many(5), 3), first(parted(7, 0), 2)), worldOf(many(3), parted(2, 0))) {
		t.Error("the room behind the books is held against each other")
	}
}

// TestRefused: what is wrong with the world is told ahead of all that is wrong with the happening.
func TestRefused(t *testing.T) {
	l := append(kinds(), api.Happening{}, api.Happening{Kind: api.HAsk + 1}, shown(3, 0), shown(0, 2), meets(0, -1), puts(0, api.Keys, long(13)))
	for want, worlds := range bad() {
		for _, w := range worlds {
			for _, x := range l {
				wantError(t, w, x, want)
			}
		}
	}
}

// TestNoSuchKind: that is told ahead of there being no such side or client.
func TestNoSuchKind(t *testing.T) {
	for _, w := range []api.World{New(), worldOf(many(3), parted(5, 2), head(t, many(2)))} {
		for _, kind := range append([]int{0, api.HAsk + 1}, far...) {
			wantError(t, w, api.Happening{Kind: kind}, api.ErrForm)
			wantError(t, w, api.Happening{Kind: kind, Side: 2}, api.ErrForm)
			wantError(t, w, api.Happening{Kind: kind, Who: -1, Other: api.MaxClients, E: api.Entry{Key: -1}}, api.ErrForm)
		}
	}
}

// TestNoSuchOne: no kind takes a side or a client that isn't there, even if it doesn't go by it; that is told ahead of what the kind itself answers.
func TestNoSuchOne(t *testing.T) {
	w := worldOf(many(3), parted(5, 2), head(t, many(2)), head(t, many(3)), head(t, many(4)))
	for _, x := range append(kinds(), puts(0, 1, long(api.MaxValue+1)), shown(2, 0), asks(0, 1, 5)) {
		for _, n := range append([]int{2, api.MaxClients}, far...) {
			y := x
			y.Side = n
			wantError(t, w, y, api.ErrWho)
			if n == 2 {
				continue
			}
			y = x
			y.Who = n
			wantError(t, w, y, api.ErrWho)
			y = x
			y.Other = n
			wantError(t, w, y, api.ErrWho)
		}
	}
	wantError(t, w, api.Happening{Kind: api.HFork, Side: 2, Who: 3, Other: 3}, api.ErrWho)
}

func TestPut(t *testing.T) {
	for n := range api.MaxLeaves {
		w := fooled(worldOf(many(n), parted(n/2, 0), head(t, many(n)), head(t, parted(n/2, 0))), 1)
		for _, e := range []api.Entry{{}, {Key: 5, Value: "x"}, {Key: api.Keys - 1, Value: long(api.MaxValue)}} {
			for side := range 2 {
				want := kept(w)
				want.B[side].E = append(want.B[side].E, e)
				wantDo(t, w, puts(side, e.Key, e.Value), want)
			}
		}
	}
}

func TestPutRefused(t *testing.T) {
	w := worldOf(many(api.MaxLeaves), many(3))
	for _, key := range far {
		wantError(t, w, puts(1, key, ""), api.ErrWho)
		wantError(t, w, puts(1, key, long(api.MaxValue+1)), api.ErrWho)
		wantError(t, w, puts(0, key, ""), api.ErrMany)
	}
	for key := range api.Keys {
		wantError(t, w, puts(1, key, long(api.MaxValue+1)), api.ErrMany)
		wantError(t, w, puts(0, key, "x"), api.ErrMany)
	}
	wantDo(t, w, puts(1, 2, "x"), worldOf(many(api.MaxLeaves), api.Book{E: append(many(3).E, api.Entry{Key: 2, Value: "x"})}))
}

// TestFork: the second book becomes as the first one, be it longer or shorter; the clients keep their heads.
func TestFork(t *testing.T) {
	for _, n := range []int{0, 1, 3, 5, api.MaxLeaves} {
		for _, m := range []int{0, 1, 5, api.MaxLeaves} {
			w := fooled(worldOf(many(n), parted(m, m/2), head(t, many(n)), head(t, parted(m, m/2))), 2)
			want := kept(w)
			want.B[1] = many(n)
			for side := range 2 {
				wantDo(t, w, api.Happening{Kind: api.HFork, Side: side, Who: 1, Other: 2}, want)
			}
		}
	}
}

// TestBooksGoApart: after a fork what is put to one book isn't in the other.
func TestBooksGoApart(t *testing.T) {
	w, said, e := Run(New(), []api.Happening{puts(0, 1, "a"), puts(0, 2, "b"), forks(), puts(0, 3, "c"), puts(1, 3, "d"), puts(1, 4, "e")})
	a, b, c, d, x := api.Entry{Key: 1, Value: "a"}, api.Entry{Key: 2, Value: "b"}, api.Entry{Key: 3, Value: "c"}, api.Entry{Key: 3, Value: "d"}, api.Entry{Key: 4, Value: "e"}
	if want := worldOf(bookOf(a, b, c), bookOf(a, b, d, x)); e != api.OK || !slices.Equal(said, make([]api.Errno, 6)) || !Same(w, want) {
		t.Errorf("two books: %v %v %d, want %v", w, said, e, want)
	}
}

// TestShow: a client goes by the head of the book that it is shown, as long as that goes on where it was; the other clients don't.
func TestShow(t *testing.T) {
	for n := range 10 {
		for m := range n + 1 {
			for who := range api.MaxClients {
				w := fooled(worldOf(many(n), parted(n, m)), 1)
				w.C[who].H = head(t, many(m))
				want := kept(w)
				want.C[who].H = head(t, many(n))
				wantDo(t, w, shown(who, 0), want)
				want.C[who].H = head(t, parted(n, m))
				wantDo(t, w, shown(who, 1), want)
			}
		}
	}
	wantDo(t, New(), shown(2, 1), worldOf(api.Book{}, api.Book{}, api.Head{}, api.Head{}, api.Head{Log: "E", Map: head(t, api.Book{}).Map}))
	wantDo(t, worldOf(bookOf(api.Entry{Key: 5, Value: "x"}), api.Book{}), api.Happening{Kind: api.HShow, Other: 2, E: api.Entry{Key: -1, Value: long(13)}},
		worldOf(bookOf(api.Entry{Key: 5, Value: "x"}), api.Book{}, api.Head{N: 1, Log: "L5 x", Map: head(t, bookOf(api.Entry{Key: 5, Value: "x"})).Map}))
}

// TestShowAnotherBook: a client that is shown a head which doesn't go on where it was is Fooled, and keeps its own; that is no error.
func TestShowAnotherBook(t *testing.T) {
	for n := 1; n < 10; n++ {
		for m := 1; m <= n; m++ {
			for at := range m {
				w := worldOf(many(n), parted(n, at), head(t, many(m)), head(t, parted(m, at)))
				wantDo(t, w, shown(0, 1), fooled(w, 0))
				wantDo(t, w, shown(1, 0), fooled(w, 1))
				wantDo(t, fooled(w, 0, 2), shown(0, 1), fooled(w, 0, 2))
			}
		}
	}
	// Heads that are of no book, with another Log, with another Map.
	h := head(t, many(3))
	for _, old := range []api.Head{{N: 3}, {N: 3, Log: h.Log}, {N: 3, Map: h.Map}, {N: 2, Log: "no seal"}, {N: 1, Log: long(api.MaxText)}} {
		w := worldOf(many(3), many(3), old)
		wantDo(t, w, shown(0, 0), fooled(w, 0))
	}
	// Of no entries neither Log nor Map is asked.
	for _, old := range []api.Head{{Log: "x"}, {Map: "y"}, {Log: long(api.MaxText), Map: long(api.MaxText)}} {
		wantDo(t, worldOf(many(3), api.Book{}, old), shown(0, 0), worldOf(many(3), api.Book{}, h))
		wantDo(t, worldOf(many(3), api.Book{}, old), shown(0, 1), worldOf(many(3), api.Book{}, head(t, api.Book{})))
	}
}

// TestShowLate: a head of fewer entries is late, of whichever book; nobody is Fooled by it.
func TestShowLate(t *testing.T) {
	for n := 1; n < 10; n++ {
		for m := range n {
			w := worldOf(first(many(n), m), parted(m, 0), head(t, many(n)))
			for side := range 2 {
				wantError(t, w, shown(0, side), api.ErrLate)
				wantError(t, fooled(w, 0), shown(0, side), api.ErrLate)
			}
		}
	}
	wantError(t, worldOf(many(3), many(3), api.Head{N: 4, Log: "no seal"}), shown(0, 1), api.ErrLate)
}

// meetsBoth asks what comes of the clients 0 and 1 meeting, whichever of them comes first: nothing, if they agree, else both are Fooled.
func meetsBoth(t *testing.T, w api.World, agree bool) {
	t.Helper()
	for _, before := range []api.World{w, fooled(w, 0), fooled(w, 1, 2)} {
		want := before
		if !agree {
			want = fooled(before, 0, 1)
		}
		wantDo(t, before, meets(0, 1), want)
		wantDo(t, before, meets(1, 0), want)
	}
}

// TestMeet: clients of one book agree, be it the first one or the second, and though it went on behind both.
func TestMeet(t *testing.T) {
	for _, n := range []int{1, 2, 3, 5, 8, api.MaxLeaves} {
		b := many(n)
		for m := range n + 1 {
			for less := range m + 1 {
				a, c := head(t, first(b, less)), head(t, first(b, m))
				meetsBoth(t, worldOf(b, b, a, c), true)
				meetsBoth(t, worldOf(b, api.Book{}, a, c), true)
				meetsBoth(t, worldOf(api.Book{}, b, a, c), true)
				meetsBoth(t, worldOf(parted(n, 0), first(b, m), a, c), true)
			}
		}
	}
	w := worldOf(many(3), many(3), head(t, many(1)), head(t, many(2)), head(t, many(3)))
	for who := range api.MaxClients {
		for other := range api.MaxClients {
			wantNothing(t, w, meets(who, other))
			wantNothing(t, w, api.Happening{Kind: api.HMeet, Who: who, Other: other, Side: 1, E: api.Entry{Key: -1}})
		}
	}
}

// TestMeetOfPartedBooks: clients agree if one of the heads is of no more than the books have alike, else both are Fooled.
func TestMeetOfPartedBooks(t *testing.T) {
	const n = 9
	for at := range n {
		one, two := many(n), parted(n, at)
		for m := range n + 1 {
			for k := range n + 1 {
				w := worldOf(one, two, head(t, first(one, m)), head(t, first(two, k)))
				meetsBoth(t, w, min(m, k) <= at)
				w.B[0], w.B[1] = w.B[1], w.B[0]
				meetsBoth(t, w, min(m, k) <= at)
			}
		}
	}
}

// TestTheyKnow: the document's example: five entries each, of books that parted at three; the third client knows nothing.
func TestTheyKnow(t *testing.T) {
	l := []api.Happening{puts(0, 1, "a"), puts(0, 2, "b"), puts(0, 3, "c"), forks(), shown(2, 0)}
	l = append(l, puts(0, 4, "d"), puts(0, 5, "e"), puts(1, 4, "x"), puts(1, 5, "y"), shown(0, 0), shown(1, 1), meets(2, 0), meets(1, 2))
	w, said, e := Run(New(), l)
	if e != api.OK || !slices.Equal(said, make([]api.Errno, len(l))) || w.C[0].H.N != 5 || w.C[1].H.N != 5 {
		t.Fatalf("%v %v %d", w, said, e)
	}
	if w.C[0].Fooled || w.C[1].Fooled || w.C[2].Fooled {
		t.Errorf("ahead of the meeting: %v", w.C)
	}
	wantDo(t, w, meets(0, 1), fooled(w, 0, 1))
}

// TestMeetOfNoBook: what no book shows any more isn't shown; but heads that are one need no showing, and neither do those of no entries.
func TestMeetOfNoBook(t *testing.T) {
	a, b := head(t, many(2)), head(t, many(4))
	meetsBoth(t, worldOf(api.Book{}, api.Book{}, a, b), false)
	meetsBoth(t, worldOf(parted(9, 0), parted(9, 1), a, b), false)
	meetsBoth(t, worldOf(parted(9, 0), parted(9, 1), b, b), true)
	meetsBoth(t, worldOf(api.Book{}, api.Book{}, b, b), true)
	meetsBoth(t, worldOf(api.Book{}, api.Book{}, api.Head{}, b), true)
	meetsBoth(t, worldOf(many(4), many(4), api.Head{Log: "x"}, api.Head{Map: "y"}), true)
	odd := api.Head{N: 7, Log: "no seal", Map: "x"}
	meetsBoth(t, worldOf(many(9), many(9), odd, odd), true)
	meetsBoth(t, worldOf(many(9), many(9), odd, api.Head{N: 7, Log: "no seal", Map: "y"}), false)
	meetsBoth(t, worldOf(many(9), many(9), odd, b), false)
	meetsBoth(t, worldOf(many(9), many(9), odd, api.Head{}), true)
	wantNothing(t, worldOf(api.Book{}, api.Book{}, odd), meets(0, 0))
}

// TestMeetOfShortBooks: a book of fewer entries than the greater head shows nothing, whatever stands in the room behind its list.
func TestMeetOfShortBooks(t *testing.T) {
	a, b := head(t, many(2)), head(t, many(4))
	for n := range 4 {
		meetsBoth(t, worldOf(many(n), many(n), a, b), false)
		meetsBoth(t, worldOf(first(many(9), n), first(many(9), n), a, b), false)
		meetsBoth(t, worldOf(first(many(9), n), many(4), a, b), true)
		meetsBoth(t, worldOf(many(5), many(n), a, b), true)
	}
	// Room that nothing was ever written to is no entry either.
	for n := 1; n < api.MaxLeaves; n++ {
		longer := api.Book{E: append(many(n).E, api.Entry{})}
		meetsBoth(t, worldOf(first(longer, n), many(n), head(t, many(1)), head(t, longer)), false)
	}
}

// TestMeetByAnySeals: it is the seals that count, not whether their book is that of the heads.
func TestMeetByAnySeals(t *testing.T) {
	b := many(4)
	b.E[0].Value = "w"
	meetsBoth(t, worldOf(b, api.Book{}, head(t, many(2)), head(t, many(4))), true)
	meetsBoth(t, worldOf(api.Book{}, b, head(t, many(1)), head(t, many(4))), true)
	meetsBoth(t, worldOf(b, b, head(t, many(3)), head(t, many(4))), false)
}

// TestAsk: a client finds each key's value, or that there is none, where the book comes to what its head says; that changes nothing.
func TestAsk(t *testing.T) {
	b := bookOf(api.Entry{Key: 5, Value: "x"}, api.Entry{Key: 9}, api.Entry{Key: 5, Value: "z"})
	w := fooled(worldOf(b, parted(3, 0), head(t, b), head(t, parted(3, 0))), 1)
	for key := range api.Keys {
		wantNothing(t, w, asks(0, 0, key))
		wantNothing(t, w, asks(1, 1, key))
		wantNothing(t, w, api.Happening{Kind: api.HAsk, Other: 2, E: api.Entry{Key: key, Value: long(api.MaxText)}})
		wantError(t, w, asks(0, 1, key), api.ErrFalse)
		wantError(t, w, asks(1, 0, key), api.ErrFalse)
		// A client that was shown nothing finds nothing, not even that there is none.
		wantError(t, w, asks(2, 0, key), api.ErrFalse)
		wantError(t, New(), asks(2, 0, key), api.ErrFalse)
		wantNothing(t, worldOf(api.Book{}, api.Book{}, head(t, api.Book{})), asks(0, 1, key))
	}
}

// TestAskOfAnotherHead: a book that went on shows nothing to a client that is behind, but where it comes to the same again.
func TestAskOfAnotherHead(t *testing.T) {
	on := api.Book{E: append(many(3).E, api.Entry{Key: 14, Value: "n"})}
	again := api.Book{E: append(many(3).E, many(3).E...)}
	w := worldOf(on, again, head(t, many(3)))
	for key := range api.Keys {
		wantError(t, w, asks(0, 0, key), api.ErrFalse)
		wantNothing(t, w, asks(0, 1, key))
		wantNothing(t, worldOf(on, again, api.Head{Map: head(t, on).Map}), asks(0, 0, key))
	}
}

// TestAskByNoKey: that is told ahead of what the client doesn't find.
func TestAskByNoKey(t *testing.T) {
	w := worldOf(many(3), many(4), head(t, many(3)))
	for _, key := range far {
		for side := range 2 {
			wantError(t, w, asks(0, side, key), api.ErrWho)
			wantError(t, w, asks(2, side, key), api.ErrWho)
		}
	}
}

// TestRun: one after the other, each with its error; what has one changes nothing.
func TestRun(t *testing.T) {
	l := []api.Happening{puts(0, 5, "x"), {}, shown(0, 0), puts(0, 16, "y"), puts(1, 5, long(13)), asks(0, 0, 5), asks(1, 0, 5), shown(0, 1), shown(3, 1), forks(), puts(1, 5, "z"), shown(0, 1), shown(0, 0), asks(0, 1, 5)}
	want := []api.Errno{api.OK, api.ErrForm, api.OK, api.ErrWho, api.ErrMany, api.OK, api.ErrFalse, api.ErrLate, api.ErrWho, api.OK, api.OK, api.OK, api.ErrLate, api.OK}
	one, two := bookOf(api.Entry{Key: 5, Value: "x"}), bookOf(api.Entry{Key: 5, Value: "x"}, api.Entry{Key: 5, Value: "z"})
	w, said, e := Run(New(), l)
	if e != api.OK || !slices.Equal(said, want) || !Same(w, worldOf(one, two, head(t, two))) {
		t.Errorf("Run: %v %v %d, want %v", w, said, e, want)
	}
	if again, said, e := Run(w, l[1:2]); e != api.OK || !slices.Equal(said, want[1:2]) || !Same(again, w) {
		t.Errorf("Run of one wrong happening: %v %v %d", again, said, e)
	}
	for _, none := range [][]api.Happening{nil, {}} {
		if again, said, e := Run(w, none); e != api.OK || len(said) != 0 || !Same(again, w) {
			t.Errorf("Run of nothing: %v %v %d", again, said, e)
		}
	}
}

// TestRunRefused: of the world ahead of there being too many happenings; else an error of one of them is no error of Run.
func TestRunRefused(t *testing.T) {
	check := func(w api.World, l []api.Happening, want api.Errno) {
		t.Helper()
		if got, said, e := Run(w, l); !isNothing(got) || said != nil || e != want {
			t.Errorf("Run of %d: %v %v %d, want %d alone", len(l), got, said, e, want)
		}
	}
	tooMany := slices.Repeat([]api.Happening{shown(0, 0)}, api.MaxScript+1)
	for want, worlds := range bad() {
		for _, w := range worlds {
			check(w, nil, want)
			check(w, []api.Happening{puts(0, 1, "x"), {}}, want)
			check(w, tooMany, want)
		}
	}
	check(New(), tooMany, api.ErrMany)
	check(New(), make([]api.Happening, api.MaxScript+1), api.ErrMany)
	check(New(), make([]api.Happening, 1000), api.ErrMany)
	w, said, e := Run(New(), tooMany[1:])
	if e != api.OK || !slices.Equal(said, make([]api.Errno, api.MaxScript)) || w.C[0].H != head(t, api.Book{}) {
		t.Errorf("Run of the most: %v %v %d", w, said, e)
	}
	w, said, e = Run(New(), make([]api.Happening, api.MaxScript))
	if e != api.OK || !slices.Equal(said, slices.Repeat([]api.Errno{api.ErrForm}, api.MaxScript)) || !Same(w, New()) {
		t.Errorf("Run of wrong ones only: %v %v %d", w, said, e)
	}
}

// spoil overwrites one list of the world, and the room behind it.
func spoil(w api.World, list int) {
	if list < len(w.B) {
		l := w.B[list].E
		for i := range l[:cap(l)] {
			l[:cap(l)][i] = api.Entry{Key: -1, Value: "?"}
		}
		return
	}
	for i := range w.C[:cap(w.C)] {
		w.C[:cap(w.C)][i] = api.Client{H: api.Head{N: -1, Log: "?"}, Fooled: true}
	}
}

// unspoilt asks that no two of the lists of what is answered are one, and none is one of was.
func unspoilt(t *testing.T, what string, was api.World, answer func() api.World) {
	t.Helper()
	before := kept(was)
	for list := range 3 {
		got := answer()
		want := kept(got)
		spoil(got, list)
		spoil(want, list)
		if !Same(got, want) {
			t.Errorf("%s: list %d of the answer is one with another: %s", what, list, tell(got))
		}
		if !Same(was, before) {
			t.Fatalf("%s: list %d of the answer is one with what was handed in", what, list)
		}
	}
}

// TestNewMemory: what is answered is the caller's, whether anything changed or not.
func TestNewMemory(t *testing.T) {
	w := worldOf(first(many(9), 5), first(many(9), 3), head(t, many(3)), head(t, many(5)), head(t, parted(4, 1)))
	for _, x := range []api.Happening{puts(0, 3, "x"), puts(1, 3, "x"), forks(), shown(0, 0), shown(2, 0), meets(0, 1), meets(1, 2), asks(1, 0, 5)} {
		unspoilt(t, "Do", w, func() api.World {
			got, e := Do(w, x)
			if e != api.OK {
				t.Fatalf("%+v: %d", x, e)
			}
			return got
		})
	}
	for _, l := range [][]api.Happening{nil, {{}}, {forks()}, {meets(0, 1)}, {forks(), {}, puts(1, 3, "x")}} {
		unspoilt(t, "Run", w, func() api.World {
			got, _, _ := Run(w, l)
			return got
		})
	}
}

// TestOnlyReads: neither the lists nor the room behind them are changed, by calls that answer an error either.
func TestOnlyReads(t *testing.T) {
	l := append(kinds(), puts(0, 3, "y"), puts(0, -1, ""), shown(0, 0), shown(1, 0), meets(0, 1), api.Happening{})
	l = append(l, forks(), shown(2, 0), meets(1, 2))
	script := slices.Clone(l)
	for n := range 8 {
		one, two, clients := many(9).E, parted(9, 2).E, make([]api.Client, 9)
		clients[0].H, clients[1].H = head(t, many(min(n, 4))), head(t, parted(3, 1))
		was := [3]any{slices.Clone(one), slices.Clone(two), slices.Clone(clients)}
		w := api.World{B: [2]api.Book{{E: one[:n]}, {E: two[:n]}}, C: clients[:api.MaxClients]}
		for _, x := range l {
			Do(w, x)
		}
		Run(w, l)
		Check(w)
		Same(w, New())
		if !slices.Equal(one, was[0].([]api.Entry)) || !slices.Equal(two, was[1].([]api.Entry)) || !slices.Equal(clients, was[2].([]api.Client)) {
			t.Fatalf("a world of %d entries is changed: %v %v %v", n, one, two, clients)
		}
	}
	if !slices.Equal(l, script) {
		t.Errorf("the script is changed: %v", l)
	}
}
