package story

import (
	"fmt"
	"math"
	"slices"
	"strconv"
	"strings"
	"testing"

	"greatseal/api"
	"greatseal/book"
	"greatseal/world"
)

// far are numbers that are neither a side nor a client.
var far = []int{-1, -2, -api.MaxClients, api.MaxClients, api.MaxClients + 1, api.MaxLeaves, 1 << 8, 1<<8 + 1, 1 << 32, 1<<32 + 1, math.MinInt, math.MaxInt}

// long is a text of n bytes.
func long(n int) string { return strings.Repeat("x", n) }

// many is a book of n good entries: by key after key, and no two values alike.
func many(n int) api.Book {
	var b api.Book
	for i := range n {
		b.E = append(b.E, api.Entry{Key: i * 5 % api.Keys, Value: "v" + strconv.Itoa(i)})
	}
	return b
}

// parted is a book of n entries that is another one from entry at on.
func parted(n, at int) api.Book {
	b := many(n)
	for i := at; i < n; i++ {
		b.E[i].Value = "w" + strconv.Itoa(i)
	}
	return b
}

// first is the book of the first m entries.
func first(b api.Book, m int) api.Book { return api.Book{E: b.E[:m]} }

// bookOf is the book of these entries.
func bookOf(l ...api.Entry) api.Book { return api.Book{E: l} }

// head is the Head of a book that has one.
func head(t *testing.T, b api.Book) api.Head {
	t.Helper()
	h, e := book.Head(b)
	if e != api.OK {
		t.Fatalf("no Head of %v: %d", b, e)
	}
	return h
}

// worldOf is the world of these books, the first clients going by these heads.
func worldOf(one, two api.Book, heads ...api.Head) api.World {
	w := api.World{B: [2]api.Book{one, two}, C: make([]api.Client, api.MaxClients)}
	for i, h := range heads {
		w.C[i].H = h
	}
	return w
}

// tell is a world told without filling the screen.
func tell(w api.World) string {
	s := fmt.Sprintf("%+v", w)
	if len(s) > 400 {
		return s[:400] + ".."
	}
	return s
}

// wantOf asks what is told of a client and a book, without an error.
func wantOf(t *testing.T, w api.World, who, side int, want bool) {
	t.Helper()
	if got, e := Of(w, who, side); got != want || e != api.OK {
		t.Errorf("Of %d %d in %s: %v %d, want %v", who, side, tell(w), got, e, want)
	}
}

// wantHead asks whether h is of that book, whichever client and side it is, and whatever the other book is.
func wantHead(t *testing.T, h api.Head, b api.Book, want bool) {
	t.Helper()
	for who := range api.MaxClients {
		heads := make([]api.Head, api.MaxClients)
		heads[who] = h
		for _, fooled := range []bool{false, true} {
			w := worldOf(b, many(2), heads...)
			w.C[who].Fooled = fooled
			wantOf(t, w, who, 0, want)
			w.B[0], w.B[1] = w.B[1], w.B[0]
			wantOf(t, w, who, 1, want)
		}
	}
}

// wantSplit asks how many first entries are alike, whichever of the books comes first.
func wantSplit(t *testing.T, one, two api.Book, want int) {
	t.Helper()
	for _, w := range []api.World{worldOf(one, two), worldOf(two, one)} {
		if got, e := Split(w); got != want || e != api.OK {
			t.Errorf("Split %s: %d %d, want %d", tell(w), got, e, want)
		}
	}
}

// TestOf: heads written out by hand.
func TestOf(t *testing.T) {
	// The keys from 0 on have none; then those of entry "15 b" and of "14 a", halved again and again.
	none := "E"
	for _, size := range []string{"1", "5", "13"} {
		none = "N" + size + ":" + none + none
	}
	without := "N30:" + none + none
	log1, map1 := "L14 a", "N30:"+none+"N13:N5:N1:EEN1:EEN5:N1:EEN2:LaE"
	log2, map2 := "N5:L14 aL15 b", "N30:"+none+"N13:N5:N1:EEN1:EEN5:N1:EEN2:LaLb"
	b := bookOf(api.Entry{Key: 14, Value: "a"}, api.Entry{Key: 15, Value: "b"})
	one, two := api.Head{N: 1, Log: log1, Map: map1}, api.Head{N: 2, Log: log2, Map: map2}
	wantHead(t, one, b, true)
	wantHead(t, two, b, true)
	wantHead(t, api.Head{Log: "E", Map: without}, b, true)
	wantHead(t, api.Head{}, b, true)
	wantHead(t, api.Head{N: 1, Log: log1, Map: map2}, b, false)
	wantHead(t, api.Head{N: 2, Log: log1, Map: map2}, b, false)
	wantHead(t, api.Head{N: 1, Log: log2, Map: map2}, b, false)
	wantHead(t, api.Head{N: 0, Log: log1, Map: map1}, b, false)
	wantHead(t, api.Head{N: 3, Log: log2, Map: map2}, b, false)
	wantHead(t, two, first(b, 1), false)
	wantHead(t, one, bookOf(b.E[1], b.E[0]), false)
	wantHead(t, two, bookOf(b.E[1], b.E[0]), false)
}

// TestOfEach: of a book are the heads that it had so far, and neither those that it will have nor those of a book that parted before.
func TestOfEach(t *testing.T) {
	for at := range api.MaxLeaves {
		mine, other := many(api.MaxLeaves), parted(api.MaxLeaves, at)
		for m := range api.MaxLeaves + 1 {
			h := head(t, first(mine, m))
			for _, n := range []int{0, 1, at, at + 1, m, 13, api.MaxLeaves} {
				w := worldOf(first(mine, n), first(other, n), api.Head{}, h, head(t, first(other, m)))
				wantOf(t, w, 0, 0, true)
				wantOf(t, w, 0, 1, true)
				wantOf(t, w, 1, 0, m <= n)
				wantOf(t, w, 1, 1, m <= n && m <= at)
				wantOf(t, w, 2, 0, m <= n && m <= at)
				wantOf(t, w, 2, 1, m <= n)
			}
		}
	}
}

// TestOfNothing: a zero head is of each book, and so is that of a book of nothing; any other head of no entries is of none.
func TestOfNothing(t *testing.T) {
	empty := head(t, api.Book{})
	for _, b := range []api.Book{{}, {E: []api.Entry{}}, many(1), many(5), many(api.MaxLeaves)} {
		wantHead(t, api.Head{}, b, true)
		wantHead(t, empty, b, true)
		for _, h := range []api.Head{
			{Log: empty.Log}, {Map: empty.Map}, {Log: empty.Log, Map: "E"}, {Log: empty.Map, Map: empty.Log},
			{Log: empty.Log + " ", Map: empty.Map}, {Log: "x", Map: "y"}, {Log: long(api.MaxText), Map: long(api.MaxText)},
		} {
			wantHead(t, h, b, false)
		}
		// A head of entries is zero by no part of it.
		wantHead(t, api.Head{N: 1}, b, false)
		wantHead(t, api.Head{N: api.MaxLeaves}, b, false)
		wantHead(t, api.Head{N: 1, Log: empty.Log, Map: empty.Map}, b, false)
	}
}

// TestOfOther: a head that is another one by one thing alone is of no book.
func TestOfOther(t *testing.T) {
	b := many(api.MaxLeaves)
	for m := 1; m <= api.MaxLeaves; m++ {
		h := head(t, first(b, m))
		next := head(t, first(b, (m+1)%api.MaxLeaves))
		wantHead(t, h, b, true)
		for _, other := range []api.Head{
			{N: next.N, Log: h.Log, Map: h.Map}, {N: h.N, Log: next.Log, Map: h.Map}, {N: h.N, Log: h.Log, Map: next.Map},
			{N: h.N, Log: "", Map: h.Map}, {N: h.N, Log: h.Log}, {N: h.N},
			{N: h.N, Log: h.Log + " ", Map: h.Map}, {N: h.N, Log: h.Log, Map: h.Map + " "}, {N: h.N, Log: h.Map, Map: h.Log},
		} {
			wantHead(t, other, b, false)
		}
	}
}

// TestOfSameValues: books that come to the same values, by other entries or in another order, are others.
func TestOfSameValues(t *testing.T) {
	a, b, c := api.Entry{Key: 1, Value: "a"}, api.Entry{Key: 2, Value: "b"}, api.Entry{Key: 1, Value: "c"}
	books := []api.Book{bookOf(a, b), bookOf(b, a), bookOf(c, b, a), bookOf(c, a, b), bookOf(a, a, b), bookOf(a, b, b), bookOf(b, c, a)}
	for i, one := range books {
		for j, two := range books {
			wantHead(t, head(t, one), two, i == j || i == 0 && j == 5)
		}
	}
}

func TestSplit(t *testing.T) {
	a, b, c := api.Entry{Key: 1, Value: "a"}, api.Entry{Key: 2, Value: "b"}, api.Entry{Key: 3, Value: ""}
	wantSplit(t, api.Book{}, api.Book{}, 0)
	wantSplit(t, api.Book{}, api.Book{E: []api.Entry{}}, 0)
	wantSplit(t, api.Book{}, bookOf(a), 0)
	wantSplit(t, bookOf(a), bookOf(a), 1)
	wantSplit(t, bookOf(a), bookOf(b), 0)
	wantSplit(t, bookOf(a), bookOf(a, b), 1)
	wantSplit(t, bookOf(a, b, c), bookOf(a, b, c), 3)
	wantSplit(t, bookOf(a, b, c), bookOf(a, c, b), 1)
	wantSplit(t, bookOf(a, b), bookOf(b, a), 0)
	// What is alike behind the parting doesn't count.
	wantSplit(t, bookOf(a, b, c), bookOf(b, b, c), 0)
	wantSplit(t, bookOf(a, b, c, a), bookOf(a, c, c, a), 1)
	// Nor what comes to the same values.
	wantSplit(t, bookOf(a, c), bookOf(c, a), 0)
	// Entries are unlike by the key alone, and by the value alone.
	wantSplit(t, bookOf(a, b), bookOf(a, api.Entry{Key: 3, Value: "b"}), 1)
	wantSplit(t, bookOf(a, b), bookOf(a, api.Entry{Key: 2, Value: "b "}), 1)
	wantSplit(t, bookOf(a, api.Entry{Key: 3}), bookOf(a, c, a), 2)
}

// TestSplitEach: books that parted at each place, and of all lengths.
func TestSplitEach(t *testing.T) {
	for at := range api.MaxLeaves + 1 {
		for m := range api.MaxLeaves + 1 {
			for n := range api.MaxLeaves + 1 {
				wantSplit(t, many(m), parted(n, at), min(at, m, n))
			}
		}
	}
}

// TestSplitAsksNoClient: whose heads there are changes nothing.
func TestSplitAsksNoClient(t *testing.T) {
	w := worldOf(many(7), parted(9, 4), head(t, many(7)), head(t, parted(9, 4)), api.Head{N: 7, Log: "x", Map: "y"})
	w.C[1].Fooled = true
	if n, e := Split(w); n != 4 || e != api.OK {
		t.Errorf("Split: %d %d, want 4", n, e)
	}
}

// bad are worlds that are refused, and what of them is told.
func bad() map[api.Errno][]api.World {
	who, much := api.Entry{Key: api.Keys}, api.Entry{Value: long(api.MaxValue + 1)}
	over := long(api.MaxText + 1)
	below, above := api.Head{N: -1, Log: over}, api.Head{N: api.MaxLeaves + 1, Map: over}
	return map[api.Errno][]api.World{
		api.ErrWho: {
			worldOf(bookOf(who), many(3)), worldOf(many(3), bookOf(api.Entry{}, who)), worldOf(bookOf(who), bookOf(much)),
			worldOf(bookOf(api.Entry{Key: -1}), many(25), below), {B: [2]api.Book{{}, bookOf(who)}},
		},
		api.ErrMany: {
			worldOf(bookOf(much), many(3)), worldOf(many(3), bookOf(api.Entry{}, much)), worldOf(bookOf(much), bookOf(who)),
			worldOf(many(25), many(25)), worldOf(api.Book{}, many(25), below), worldOf(many(1000), many(1000)), {B: [2]api.Book{many(25), {}}},
			worldOf(many(3), many(2), api.Head{Log: over}), worldOf(many(3), many(2), api.Head{}, api.Head{N: 3, Map: over}, below),
		},
		api.ErrForm: {
			{}, {C: []api.Client{}}, {C: make([]api.Client, api.MaxClients-1)}, {C: make([]api.Client, api.MaxClients+1)},
			{B: [2]api.Book{many(3), many(4)}, C: []api.Client{{H: below}}}, {C: make([]api.Client, api.MaxClients)[:1]},
		},
		api.ErrRange: {
			worldOf(many(3), many(2), below), worldOf(many(3), many(2), api.Head{}, above), worldOf(many(3), many(2), api.Head{}, api.Head{}, below),
			worldOf(api.Book{}, api.Book{}, below, api.Head{Log: over}), worldOf(api.Book{}, api.Book{}, api.Head{N: math.MaxInt}, api.Head{N: math.MinInt}),
		},
	}
}

// TestRefused: what is wrong with the world is told ahead of there being no such client or book, and of clients and books that nothing is wrong with, too.
func TestRefused(t *testing.T) {
	numbers := append([]int{0, 1, 2}, far...)
	for want, worlds := range bad() {
		for _, w := range worlds {
			if n, e := Split(w); n != 0 || e != want {
				t.Errorf("Split %s: %d %d, want %d alone", tell(w), n, e, want)
			}
			for _, who := range numbers {
				for _, side := range numbers {
					if is, e := Of(w, who, side); is || e != want {
						t.Errorf("Of %d %d in %s: %v %d, want %d alone", who, side, tell(w), is, e, want)
					}
				}
			}
		}
	}
}

// TestNoSuchOne: of a client or a book that isn't there nothing is told, however good the other number is.
func TestNoSuchOne(t *testing.T) {
	h := head(t, many(2))
	for _, w := range []api.World{world.New(), worldOf(many(3), many(3), h, h, h), worldOf(many(1), api.Book{}, h)} {
		wrong := func(who, side int) {
			t.Helper()
			if is, e := Of(w, who, side); is || e != api.ErrWho {
				t.Errorf("Of %d %d in %s: %v %d, want %d alone", who, side, tell(w), is, e, api.ErrWho)
			}
		}
		for _, n := range far {
			for side := range 2 {
				wrong(n, side)
			}
			for who := range api.MaxClients {
				wrong(who, n)
			}
			wrong(n, n)
		}
		// There are more clients than books.
		wrong(0, 2)
		wrong(2, 2)
	}
}

// TestOnlyReads: neither the lists nor the room behind them are changed, by calls that answer an error either.
func TestOnlyReads(t *testing.T) {
	for n := range 8 {
		one, two, clients := many(9).E, parted(9, 2).E, make([]api.Client, 9)
		clients[0].H, clients[1].H, clients[2].H = head(t, many(min(n, 4))), head(t, parted(3, 1)), head(t, many(9))
		was := [3]any{slices.Clone(one), slices.Clone(two), slices.Clone(clients)}
		for _, c := range [][]api.Client{clients[:api.MaxClients], clients[:2]} {
			w := api.World{B: [2]api.Book{{E: one[:n]}, {E: two[:n]}}, C: c}
			Split(w)
			for who := range api.MaxClients + 1 {
				for side := range 3 {
					Of(w, who, side)
				}
			}
		}
		if !slices.Equal(one, was[0].([]api.Entry)) || !slices.Equal(two, was[1].([]api.Entry)) || !slices.Equal(clients, was[2].([]api.Client)) {
			t.Fatalf("a world of %d entries is changed: %v %v %v", n, one, two, clients)
		}
	}
}

// FuzzOf: whatever the head and the numbers are, no call panics, and the answer is one of those that there are.
func FuzzOf(f *testing.F) {
	f.Add(2, "La", "m", true, 0, 0)
	f.Add(0, "", "", false, 1, 1)
	f.Add(-1, "E", "", true, 2, -1)
	f.Add(math.MaxInt, "", "E", false, math.MinInt, math.MaxInt)
	f.Fuzz(func(t *testing.T, n int, log, all string, fooled bool, who, side int) {
		w := worldOf(many(5), parted(4, 2), api.Head{N: n, Log: log, Map: all})
		w.C[0].Fooled = fooled
		is, e := Of(w, who, side)
		again, f := Of(w, who, side)
		if is != again || e != f {
			t.Errorf("Of %d %d in %s: %v %d, and %v %d", who, side, tell(w), is, e, again, f)
		}
		if e != api.OK && (is || e != api.ErrRange && e != api.ErrMany && e != api.ErrWho) {
			t.Errorf("Of %d %d in %s: %v %d", who, side, tell(w), is, e)
		}
		want := worldOf(w.B[0], w.B[1], head(t, first(many(5), min(max(n, 0), 5))))
		if good := w.C[0].H == (api.Head{}) || w.C[0].H == want.C[0].H; e == api.OK && who == 0 && side == 0 && is != good {
			t.Errorf("Of 0 0 in %s: %v", tell(w), is)
		}
	})
}
