package book

import (
	"maps"
	"math"
	"slices"
	"strconv"
	"strings"
	"testing"

	"greatseal/api"
	"greatseal/seal"
	"greatseal/tree"
	"greatseal/trie"
)

// Seals of keys without a value: of one, two, four and eight of them.
const (
	none1 = "E"
	none2 = "N1:EE"
	none4 = "N5:N1:EEN1:EE"
	none8 = "N13:N5:N1:EEN1:EEN5:N1:EEN1:EE"
)

// notKeys are numbers that are no key.
var notKeys = []int{-1, api.Keys, api.Keys + 1, -api.Keys, 1 << 8, math.MinInt, math.MaxInt}

// long is a text of n bytes.
func long(n int) string { return strings.Repeat("x", n) }

// of is the book of these entries.
func of(l ...api.Entry) api.Book { return api.Book{E: l} }

// many is a book of n good entries: by key after key, and no two values alike.
func many(n int) api.Book {
	var b api.Book
	for i := range n {
		b.E = append(b.E, api.Entry{Key: i * 5 % api.Keys, Value: "v" + strconv.Itoa(i)})
	}
	return b
}

// changed is a book of n good entries, but for entry i, which is x.
func changed(n, i int, x api.Entry) api.Book {
	b := many(n)
	b.E[i] = x
	return b
}

// samples are good books: few entries and many, one key again and again, values that look like something else, the longest ones.
func samples() []api.Book {
	l := []api.Book{
		{},
		{E: []api.Entry{}},
		of(api.Entry{}),
		of(api.Entry{Key: 5, Value: "x"}, api.Entry{Key: 9, Value: "y"}, api.Entry{Key: 5, Value: "z"}),
		of(api.Entry{Key: 5, Value: "x"}, api.Entry{Key: 5, Value: ""}),
		of(api.Entry{Key: 1, Value: "5 x"}, api.Entry{Key: 15, Value: " x"}, api.Entry{Key: 0, Value: "\xff\x00"}),
		{E: make([]api.Entry, api.MaxLeaves)},
		{E: slices.Repeat([]api.Entry{{Key: api.Keys - 1, Value: long(api.MaxValue)}}, api.MaxLeaves)},
	}
	for n := range api.MaxLeaves + 1 {
		l = append(l, many(n))
	}
	return l
}

// bad are books that are refused, and what of them is told.
func bad() map[api.Errno][]api.Book {
	over := long(api.MaxValue + 1)
	l := map[api.Errno][]api.Book{}
	add := func(e api.Errno, b api.Book) { l[e] = append(l[e], b) }
	for _, n := range []int{1, 2, 3, 8, api.MaxLeaves} {
		for i := range n {
			for _, key := range notKeys {
				add(api.ErrWho, changed(n, i, api.Entry{Key: key}))
				add(api.ErrWho, changed(n, i, api.Entry{Key: key, Value: over}))
			}
			for _, key := range []int{0, 7, api.Keys - 1} {
				add(api.ErrMany, changed(n, i, api.Entry{Key: key, Value: over}))
				add(api.ErrMany, changed(n, i, api.Entry{Key: key, Value: long(api.MaxText + 1)}))
				// Bytes are counted, not letters.
				add(api.ErrMany, changed(n, i, api.Entry{Key: key, Value: strings.Repeat("ä", api.MaxValue/2) + "x"}))
			}
		}
	}
	// Of two bad entries the first is told, whatever is wrong with each.
	who, much := api.Entry{Key: api.Keys}, api.Entry{Value: over}
	add(api.ErrWho, of(who, much))
	add(api.ErrMany, of(much, who))
	add(api.ErrWho, of(api.Entry{}, who, api.Entry{}, much))
	add(api.ErrMany, of(api.Entry{}, much, api.Entry{}, who))
	// Too many entries are told ahead of each of them.
	add(api.ErrMany, many(api.MaxLeaves+1))
	add(api.ErrMany, many(1000))
	add(api.ErrMany, changed(api.MaxLeaves+1, 0, who))
	add(api.ErrMany, changed(api.MaxLeaves+1, api.MaxLeaves, who))
	add(api.ErrMany, api.Book{E: slices.Repeat([]api.Entry{who}, 1000)})
	return l
}

// last is the last value by that key, looked for from the end.
func last(b api.Book, key int) (string, bool) {
	for i := len(b.E) - 1; i >= 0; i-- {
		if b.E[i].Key == key {
			return b.E[i].Value, true
		}
	}
	return "", false
}

// head is the Head of a book that has one.
func head(t *testing.T, b api.Book) api.Head {
	t.Helper()
	h, e := Head(b)
	if e != api.OK {
		t.Fatalf("no Head of %v: %d", b, e)
	}
	return h
}

// put is the book with an entry that it takes.
func put(t *testing.T, b api.Book, x api.Entry) api.Book {
	t.Helper()
	longer, e := Put(b, x)
	if e != api.OK {
		t.Fatalf("Put %v to %v: %d", x, b, e)
	}
	return longer
}

func wantPutError(t *testing.T, b api.Book, x api.Entry, want api.Errno) {
	t.Helper()
	if got, e := Put(b, x); got.E != nil || e != want {
		t.Errorf("Put %v to %d entries: %v %d, want %d alone", x, len(b.E), got, e, want)
	}
}

func TestCheck(t *testing.T) {
	for _, b := range samples() {
		if e := Check(b); e != api.OK {
			t.Errorf("Check %v: %d, want OK", b, e)
		}
	}
	for key := range api.Keys {
		for n := range api.MaxValue + 1 {
			if e := Check(of(api.Entry{Key: key, Value: long(n)})); e != api.OK {
				t.Errorf("Check key %d, %d bytes: %d, want OK", key, n, e)
			}
		}
	}
}

// TestRefused: each call that takes a good book only tells what is wrong with it, and nothing beside that.
func TestRefused(t *testing.T) {
	for want, books := range bad() {
		for _, b := range books {
			if e := Check(b); e != want {
				t.Errorf("Check %v: %d, want %d", b, e, want)
			}
			if m, e := Values(b); m != nil || e != want {
				t.Errorf("Values %v: %v %d, want %d alone", b, m, e, want)
			}
			if h, e := Head(b); h != (api.Head{}) || e != want {
				t.Errorf("Head %v: %v %d, want %d alone", b, h, e, want)
			}
			// The book is told ahead of the entry, and of there being no room for it.
			for _, x := range []api.Entry{{}, {Key: api.Keys}, {Value: long(api.MaxValue + 1)}} {
				wantPutError(t, b, x, want)
			}
		}
	}
}

func TestText(t *testing.T) {
	for _, x := range []struct {
		e    api.Entry
		want string
	}{
		{api.Entry{}, "0 "},
		{api.Entry{Key: 5, Value: "x"}, "5 x"},
		{api.Entry{Key: 15, Value: "5 x"}, "15 5 x"},
		{api.Entry{Key: 1, Value: " "}, "1  "},
		{api.Entry{Key: 1, Value: "\xff\x00é\n"}, "1 \xff\x00é\n"},
		// Whatever they are: what Check refuses has a Text, too.
		{api.Entry{Key: 16, Value: long(13)}, "16 " + long(13)},
		{api.Entry{Key: -1, Value: "-1"}, "-1 -1"},
		{api.Entry{Key: -2147483648}, "-2147483648 "},
		{api.Entry{Key: math.MaxInt}, strconv.Itoa(math.MaxInt) + " "},
		{api.Entry{Key: 3, Value: long(api.MaxText + 1)}, "3 " + long(api.MaxText+1)},
	} {
		if got := Text(x.e); got != x.want {
			t.Errorf("Text of %v: %q, want %q", x.e, got, x.want)
		}
	}
}

func TestTexts(t *testing.T) {
	b := of(api.Entry{Key: 5, Value: "x"}, api.Entry{Key: 9}, api.Entry{Key: 5, Value: "x"}, api.Entry{Key: -7, Value: long(20)})
	if got, want := Texts(b), []string{"5 x", "9 ", "5 x", "-7 " + long(20)}; !slices.Equal(got, want) {
		t.Errorf("Texts: %q, want %q", got, want)
	}
	books := samples()
	for _, more := range bad() {
		books = append(books, more...)
	}
	for _, b := range books {
		l := Texts(b)
		if len(l) != len(b.E) {
			t.Fatalf("%d Texts of %d entries", len(l), len(b.E))
		}
		for i, x := range b.E {
			if l[i] != Text(x) {
				t.Errorf("Texts of %v: %q at %d", b, l[i], i)
			}
		}
	}
}

func TestValues(t *testing.T) {
	for _, x := range []struct {
		b    api.Book
		want map[int]string
	}{
		{of(), map[int]string{}},
		{of(api.Entry{}), map[int]string{0: ""}},
		{of(api.Entry{Key: 5, Value: "x"}, api.Entry{Key: 9, Value: "y"}, api.Entry{Key: 5, Value: "z"}), map[int]string{5: "z", 9: "y"}},
		// An empty value is a value: it neither leaves the one ahead of it nor takes the key away.
		{of(api.Entry{Key: 5, Value: "x"}, api.Entry{Key: 5}), map[int]string{5: ""}},
		{of(api.Entry{Key: 5}, api.Entry{Key: 5, Value: "x"}), map[int]string{5: "x"}},
	} {
		if got, e := Values(x.b); !maps.Equal(got, x.want) || e != api.OK {
			t.Errorf("Values %v: %v %d, want %v", x.b, got, e, x.want)
		}
	}
}

func TestValuesAreTheLast(t *testing.T) {
	for _, b := range samples() {
		m, e := Values(b)
		if e != api.OK {
			t.Errorf("Values %v: %d", b, e)
		}
		found := 0
		for key := range api.Keys {
			want, there := last(b, key)
			if got, is := m[key]; got != want || is != there {
				t.Errorf("Values %v by %d: %q %t, want %q %t", b, key, got, is, want, there)
			}
			if there {
				found++
			}
		}
		if len(m) != found {
			t.Errorf("Values %v: %d keys, want %d", b, len(m), found)
		}
	}
}

func TestPut(t *testing.T) {
	for _, b := range samples() {
		if len(b.E) == api.MaxLeaves {
			continue
		}
		for _, x := range []api.Entry{{}, {Key: 5, Value: "w"}, {Key: api.Keys - 1, Value: long(api.MaxValue)}} {
			got := put(t, b, x)
			if want := append(slices.Clone(b.E), x); !slices.Equal(got.E, want) {
				t.Errorf("Put %v to %v: %v", x, b, got)
			}
		}
	}
}

// TestPutToTheLimit: a book takes MaxLeaves entries, one after the other, and no more.
func TestPutToTheLimit(t *testing.T) {
	var b api.Book
	for _, x := range many(api.MaxLeaves).E {
		b = put(t, b, x)
	}
	if !slices.Equal(b.E, many(api.MaxLeaves).E) {
		t.Errorf("Put one by one: %v", b)
	}
	wantPutError(t, b, api.Entry{}, api.ErrMany)
	// Where there is no room, what is wrong with the entry is not told.
	for _, key := range notKeys {
		wantPutError(t, b, api.Entry{Key: key}, api.ErrMany)
	}
}

func TestPutOfABadEntry(t *testing.T) {
	for n := range api.MaxLeaves {
		for _, key := range notKeys {
			wantPutError(t, many(n), api.Entry{Key: key}, api.ErrWho)
			wantPutError(t, many(n), api.Entry{Key: key, Value: long(api.MaxValue + 1)}, api.ErrWho)
		}
		for key := range api.Keys {
			wantPutError(t, many(n), api.Entry{Key: key, Value: long(api.MaxValue + 1)}, api.ErrMany)
		}
	}
}

func TestHead(t *testing.T) {
	for _, x := range []struct {
		b    api.Book
		want api.Head
	}{
		{of(), api.Head{N: 0, Log: "E", Map: "N30:" + none8 + none8}},
		{of(api.Entry{}), api.Head{N: 1, Log: "L0 ", Map: "N30:N13:N5:N1:LEN1:EE" + none4 + none8}},
		{
			of(api.Entry{Key: 15, Value: "E"}, api.Entry{Key: 15, Value: "x"}),
			api.Head{N: 2, Log: "N5:L15 EL15 x", Map: "N30:" + none8 + "N13:" + none4 + "N5:" + none2 + "N1:" + none1 + "Lx"},
		},
		{
			of(api.Entry{Key: 5, Value: "x"}, api.Entry{Key: 9, Value: "y"}, api.Entry{Key: 5, Value: "z"}),
			api.Head{N: 3, Log: "N11:N4:L5 xL9 yL5 z", Map: "N31:N13:" + none4 + "N6:N1:ELz" + none2 + "N14:N6:N1:ELy" + none2 + none4},
		},
	} {
		if got, e := Head(x.b); got != x.want || e != api.OK {
			t.Errorf("Head %v: %v %d, want %v", x.b, got, e, x.want)
		}
	}
}

func TestHeadByItsParts(t *testing.T) {
	for _, b := range samples() {
		log, e := tree.Root(Texts(b))
		values, f := Values(b)
		all, g := trie.Root(values)
		if e != api.OK || f != api.OK || g != api.OK {
			t.Fatalf("parts of the Head of %v: %d %d %d", b, e, f, g)
		}
		if got, want := head(t, b), (api.Head{N: len(b.E), Log: log, Map: all}); got != want {
			t.Errorf("Head %v: %v, want %v", b, got, want)
		}
	}
}

// TestHeadOfTheMost: no good book is refused by the limit of the seals.
func TestHeadOfTheMost(t *testing.T) {
	var b api.Book
	for i := range api.MaxLeaves {
		b.E = append(b.E, api.Entry{Key: api.Keys - 1 - i%api.Keys, Value: long(api.MaxValue)})
	}
	h := head(t, b)
	if h.N != api.MaxLeaves || len(h.Log) > api.MaxText || len(h.Map) > api.MaxText {
		t.Errorf("Head of the most: %d entries, %d and %d bytes", h.N, len(h.Log), len(h.Map))
	}
}

// TestNoTwoBooks: no two books have one Log, though what they come to may be one.
func TestNoTwoBooks(t *testing.T) {
	few := []api.Entry{{Key: 1}, {Key: 1, Value: "5 x"}, {Key: 15, Value: "x"}, {Key: 1, Value: "1 "}, {Key: 11}}
	books := []api.Book{{}}
	for at := 0; len(books[at].E) < 4; at++ {
		for _, x := range few {
			books = append(books, put(t, books[at], x))
		}
	}
	seen := map[string]api.Book{}
	for _, b := range books {
		h := head(t, b)
		if other, there := seen[h.Log]; there {
			t.Errorf("%v and %v have one Log", other, b)
		}
		seen[h.Log] = b
	}
	one := head(t, of(api.Entry{Key: 1, Value: "a"}, api.Entry{Key: 2, Value: "b"}))
	two := head(t, of(api.Entry{Key: 2, Value: "b"}, api.Entry{Key: 1, Value: "c"}, api.Entry{Key: 1, Value: "a"}))
	if one.Map != two.Map || one.Log == two.Log {
		t.Errorf("heads of books that come to the same: %v and %v", one, two)
	}
}

// TestHeadIsRead: the entries and the values come back out of the seals.
func TestHeadIsRead(t *testing.T) {
	b := of(api.Entry{Key: 0, Value: "a b"}, api.Entry{Key: 8, Value: "c"})
	h := head(t, b)
	left, right, e := seal.Split(h.Log)
	first, f := seal.Open(left)
	second, g := seal.Open(right)
	if first != "0 a b" || second != "8 c" || e != api.OK || f != api.OK || g != api.OK {
		t.Errorf("of %q comes %q %q, %d %d %d", h.Log, first, second, e, f, g)
	}
	values, _ := Values(b)
	for key := range api.Keys {
		l, e := trie.Path(values, key)
		value, there := last(b, key)
		if f := trie.Shows(h.Map, key, value, there, l); e != api.OK || f != api.OK {
			t.Errorf("key %d is not shown: %d %d", key, e, f)
		}
	}
}

// TestOnlyReads: neither the book nor the room behind its list is changed, by calls that answer an error either.
func TestOnlyReads(t *testing.T) {
	for n := range api.MaxLeaves + 2 {
		room := many(api.MaxLeaves + 4).E
		b := api.Book{E: room[:n]}
		for range 2 {
			Check(b)
			Texts(b)
			Values(b)
			Head(b)
			Put(b, api.Entry{Key: 3, Value: "new"})
			Put(b, api.Entry{Key: -3, Value: "new"})
		}
		if !slices.Equal(room, many(api.MaxLeaves+4).E) {
			t.Errorf("%d entries: %v is left", n, room)
		}
	}
}

// TestNewMemory: what is answered is one with nothing else: neither with the book nor with another answer.
func TestNewMemory(t *testing.T) {
	for n := range api.MaxLeaves {
		room := many(api.MaxLeaves).E
		b := api.Book{E: room[:n]}
		x, y := api.Entry{Key: 1, Value: "one"}, api.Entry{Key: 2, Value: "two"}
		one, two := put(t, b, x), put(t, b, y)
		want := append(slices.Clone(b.E), x)
		for i := range two.E {
			two.E[i] = api.Entry{Key: -1}
		}
		for i := range room {
			room[i] = api.Entry{Key: -2}
		}
		if !slices.Equal(one.E, want) {
			t.Errorf("Put to %d entries: %v is left, want %v", n, one.E, want)
		}
		for i := range one.E {
			one.E[i] = api.Entry{Key: -3}
		}
		if slices.Contains(room, api.Entry{Key: -3}) || slices.Contains(room, api.Entry{Key: -1}) {
			t.Errorf("Put to %d entries: the answer is one with the book", n)
		}
	}
	b := many(7)
	first, _ := Values(b)
	again, _ := Values(b)
	clear(again)
	l, m := Texts(b), Texts(b)
	clear(m)
	if len(first) != 7 || l[0] == "" {
		t.Errorf("two answers are one: %v, %q", first, l)
	}
}

// TestPutsOfOneBook: two entries behind one book are two books, each going on where it was.
func TestPutsOfOneBook(t *testing.T) {
	b := put(t, put(t, of(), api.Entry{Key: 1, Value: "a"}), api.Entry{Key: 2, Value: "b"})
	one, two := put(t, b, api.Entry{Key: 1, Value: "c"}), put(t, b, api.Entry{Key: 1, Value: "d"})
	if head(t, one).Log != "N11:N4:L1 aL2 bL1 c" || head(t, two).Log != "N11:N4:L1 aL2 bL1 d" || head(t, b).Log != "N4:L1 aL2 b" {
		t.Errorf("heads: %v %v %v", head(t, one), head(t, two), head(t, b))
	}
}
