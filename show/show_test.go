package show

import (
	"math"
	"slices"
	"strconv"
	"strings"
	"testing"

	"greatseal/api"
	"greatseal/book"
	"greatseal/grow"
	"greatseal/path"
	"greatseal/trie"
)

// Seals of keys without a value: of two, four and eight of them.
const (
	none2 = "N1:EE"
	none4 = "N5:N1:EEN1:EE"
	none8 = "N13:N5:N1:EEN1:EEN5:N1:EEN1:EE"
)

// far are numbers that are neither a key nor the place or the number of an entry, in whatever book.
var far = []int{-1, -2, -api.Keys, -api.MaxLeaves, api.MaxLeaves + 1, 1 << 8, 1 << 32, math.MinInt, math.MaxInt}

// long is a text of n bytes.
func long(n int) string { return strings.Repeat("x", n) }

// of is the book of these entries.
func of(l ...api.Entry) api.Book { return api.Book{E: l} }

// three is a book in which a key has one value behind the other.
func three() api.Book {
	return of(api.Entry{Key: 5, Value: "x"}, api.Entry{Key: 9, Value: "y"}, api.Entry{Key: 5, Value: "z"})
}

// many is a book of n good entries: by key after key, and no two values alike.
func many(n int) api.Book {
	var b api.Book
	for i := range n {
		b.E = append(b.E, api.Entry{Key: i * 5 % api.Keys, Value: "v" + strconv.Itoa(i)})
	}
	return b
}

// changed is a book of n good entries, but for entry i, which is x.
func changed(n, i int, x api.Entry) api.Book {
	b := many(n)
	b.E[i] = x
	return b
}

// samples are good books: few entries and many, one key again and again, empty values and the longest ones.
func samples() []api.Book {
	l := []api.Book{
		{E: []api.Entry{}},
		of(api.Entry{}),
		three(),
		of(api.Entry{Key: 5, Value: "x"}, api.Entry{Key: 5}),
		of(api.Entry{Key: 5}, api.Entry{Key: 5, Value: "x"}),
		of(api.Entry{Key: 1, Value: "5 x"}, api.Entry{Key: 15, Value: " x"}, api.Entry{Key: 0, Value: "\xff\x00"}),
		{E: make([]api.Entry, api.MaxLeaves)},
		{E: slices.Repeat([]api.Entry{{Key: api.Keys - 1, Value: long(api.MaxValue)}}, api.MaxLeaves)},
	}
	for n := range api.MaxLeaves + 1 {
		l = append(l, many(n))
	}
	return l
}

// bad are books that are refused, and what of them is told.
func bad() map[api.Errno][]api.Book {
	who, much := api.Entry{Key: api.Keys}, api.Entry{Value: long(api.MaxValue + 1)}
	both := api.Entry{Key: -1, Value: much.Value}
	l := map[api.Errno][]api.Book{
		api.ErrWho:  {of(api.Entry{}, who, much)},
		api.ErrMany: {of(api.Entry{}, much, who), many(api.MaxLeaves + 1), many(1000), changed(api.MaxLeaves+1, 0, who)},
	}
	for _, n := range []int{1, 2, 5, api.MaxLeaves} {
		for i := range n {
			l[api.ErrWho] = append(l[api.ErrWho], changed(n, i, who), changed(n, i, both))
			l[api.ErrMany] = append(l[api.ErrMany], changed(n, i, much))
		}
	}
	return l
}

// head is the Head of a book that has one.
func head(t *testing.T, b api.Book) api.Head {
	t.Helper()
	h, e := book.Head(b)
	if e != api.OK {
		t.Fatalf("no Head of %v: %d", b, e)
	}
	return h
}

func wantEntryError(t *testing.T, b api.Book, i int, want api.Errno) {
	t.Helper()
	if x, l, e := Entry(b, i); x != (api.Entry{}) || l != nil || e != want {
		t.Errorf("Entry %d of %v: %v %v %d, want %d alone", i, b, x, l, e, want)
	}
}

func wantGrowthError(t *testing.T, b api.Book, m int, want api.Errno) {
	t.Helper()
	if l, e := Growth(b, m); l != nil || e != want {
		t.Errorf("Growth from %d of %v: %q %d, want %d alone", m, b, l, e, want)
	}
}

func wantValueError(t *testing.T, b api.Book, key int, want api.Errno) {
	t.Helper()
	if v, there, l, e := Value(b, key); v != "" || there || l != nil || e != want {
		t.Errorf("Value by %d of %v: %q %t %q %d, want %d alone", key, b, v, there, l, e, want)
	}
}

func TestEntry(t *testing.T) {
	for _, x := range []struct {
		b     api.Book
		i     int
		want  api.Entry
		steps []api.Step
	}{
		{of(api.Entry{}), 0, api.Entry{}, nil},
		{of(api.Entry{Key: 7, Value: "a"}), 0, api.Entry{Key: 7, Value: "a"}, nil},
		{three(), 0, api.Entry{Key: 5, Value: "x"}, []api.Step{{Seal: "L9 y"}, {Seal: "L5 z"}}},
		{three(), 1, api.Entry{Key: 9, Value: "y"}, []api.Step{{Left: true, Seal: "L5 x"}, {Seal: "L5 z"}}},
		{three(), 2, api.Entry{Key: 5, Value: "z"}, []api.Step{{Left: true, Seal: "N4:L5 xL9 y"}}},
	} {
		if got, steps, e := Entry(x.b, x.i); got != x.want || !slices.Equal(steps, x.steps) || e != api.OK {
			t.Errorf("Entry %d of %v: %v %v %d, want %v %v", x.i, x.b, got, steps, e, x.want, x.steps)
		}
	}
}

// TestEntriesAreShown: each entry of a book is shown at its place by the book's Log, and at no other place, and no other entry there.
func TestEntriesAreShown(t *testing.T) {
	for _, b := range samples() {
		h := head(t, b)
		for i, want := range b.E {
			got, steps, e := Entry(b, i)
			if got != want || e != api.OK {
				t.Errorf("Entry %d of %v: %v %d", i, b, got, e)
			}
			if e := path.Shows(h.Log, h.N, i, book.Text(got), steps); e != api.OK {
				t.Errorf("Entry %d of %v is not shown: %d", i, b, e)
			}
			other := api.Entry{Key: got.Key, Value: got.Value + "!"}
			if e := path.Shows(h.Log, h.N, i, book.Text(other), steps); e != api.ErrFalse {
				t.Errorf("%v is shown as entry %d of %v: %d", other, i, b, e)
			}
			for j := range b.E {
				if e := path.Shows(h.Log, h.N, j, book.Text(got), steps); j != i && e == api.OK && b.E[j] != got {
					t.Errorf("Entry %d of %v is shown as entry %d", i, b, j)
				}
			}
		}
	}
}

func TestEntryThatIsNotThere(t *testing.T) {
	for _, b := range samples() {
		for _, i := range append([]int{len(b.E), len(b.E) + 1, -len(b.E) - 1}, far...) {
			wantEntryError(t, b, i, api.ErrWho)
		}
	}
	// What stands in the room behind the list is no entry.
	wantEntryError(t, api.Book{E: many(5).E[:3]}, 3, api.ErrWho)
}

func TestGrowth(t *testing.T) {
	for _, x := range []struct {
		b    api.Book
		m    int
		want []string
	}{
		{of(api.Entry{}), 1, nil},
		{three(), 1, []string{"L9 y", "L5 z"}},
		{three(), 2, []string{"L5 z"}},
		{three(), 3, nil},
		{many(4), 3, []string{"L10 v2", "L15 v3", "N5:L0 v0L5 v1"}},
	} {
		if got, e := Growth(x.b, x.m); !slices.Equal(got, x.want) || e != api.OK {
			t.Errorf("Growth from %d of %v: %q %d, want %q", x.m, x.b, got, e, x.want)
		}
	}
}

// TestGrowthIsShown: that a book begins with its first entries is shown by the two Logs, and not of other entries.
func TestGrowthIsShown(t *testing.T) {
	for _, b := range samples() {
		h := head(t, b)
		for m := 1; m <= len(b.E); m++ {
			l, e := Growth(b, m)
			old := api.Book{E: slices.Clone(b.E[:m])}
			was := head(t, old)
			if f := grow.Shows(was.Log, was.N, h.Log, h.N, l); e != api.OK || f != api.OK {
				t.Errorf("Growth from %d of %v is not shown: %d %d", m, b, e, f)
			}
			for i := range old.E {
				parted := api.Book{E: slices.Clone(old.E)}
				parted.E[i] = api.Entry{Key: 3, Value: "w"}
				was := head(t, parted)
				if e := grow.Shows(was.Log, was.N, h.Log, h.N, l); e != api.ErrFalse {
					t.Errorf("Growth from %d of %v is shown from %v: %d", m, b, parted, e)
				}
			}
		}
	}
}

func TestGrowthFromNone(t *testing.T) {
	for _, b := range samples() {
		for _, m := range append([]int{0, len(b.E) + 1, -len(b.E) - 1}, far...) {
			wantGrowthError(t, b, m, api.ErrRange)
		}
	}
	wantGrowthError(t, api.Book{E: many(5).E[:3]}, 4, api.ErrRange)
}

func TestValue(t *testing.T) {
	for _, x := range []struct {
		b     api.Book
		key   int
		want  string
		there bool
		l     []string
	}{
		{of(), 0, "", false, []string{"E", none2, none4, none8}},
		{of(api.Entry{}), 0, "", true, []string{"E", none2, none4, none8}},
		{of(api.Entry{}), 1, "", false, []string{"L", none2, none4, none8}},
		{three(), 5, "z", true, []string{"E", none2, none4, "N14:N6:N1:ELy" + none2 + none4}},
		{three(), 6, "", false, []string{"E", "N1:ELz", none4, "N14:N6:N1:ELy" + none2 + none4}},
		{three(), 9, "y", true, []string{"E", none2, none4, "N13:" + none4 + "N6:N1:ELz" + none2}},
		// An empty value is a value, ahead of another one or behind it.
		{of(api.Entry{Key: 15, Value: "x"}, api.Entry{Key: 15}), 15, "", true, []string{"E", none2, none4, none8}},
		{of(api.Entry{Key: 15}, api.Entry{Key: 15, Value: "x"}), 15, "x", true, []string{"E", none2, none4, none8}},
	} {
		v, there, l, e := Value(x.b, x.key)
		if v != x.want || there != x.there || !slices.Equal(l, x.l) || e != api.OK {
			t.Errorf("Value by %d of %v: %q %t %q %d, want %q %t %q", x.key, x.b, v, there, l, e, x.want, x.there, x.l)
		}
	}
}

// TestValuesAreShown: each key's value, or that there is none, is what Values has, and is shown by the book's Map, and nothing else is.
func TestValuesAreShown(t *testing.T) {
	for _, b := range samples() {
		h := head(t, b)
		values, _ := book.Values(b)
		for key := range api.Keys {
			v, there, l, e := Value(b, key)
			if want, is := values[key]; v != want || there != is || e != api.OK {
				t.Errorf("Value by %d of %v: %q %t %d, want %q %t", key, b, v, there, e, want, is)
			}
			if e := trie.Shows(h.Map, key, v, there, l); e != api.OK {
				t.Errorf("Value by %d of %v is not shown: %d", key, b, e)
			}
			if e := trie.Shows(h.Map, key, v+"!", true, l); e != api.ErrFalse {
				t.Errorf("another value by %d of %v is shown: %d", key, b, e)
			}
			if e := trie.Shows(h.Map, key, "", !there, l); e != api.ErrFalse {
				t.Errorf("by %d of %v both some and none is shown: %d", key, b, e)
			}
		}
	}
}

func TestValueByNoKey(t *testing.T) {
	for _, b := range samples() {
		for _, key := range append([]int{api.Keys, api.Keys + 1}, far...) {
			wantValueError(t, b, key, api.ErrWho)
		}
	}
}

// TestRefused: what is wrong with the book is told ahead of what is wrong with the number.
func TestRefused(t *testing.T) {
	for want, books := range bad() {
		for _, b := range books {
			for _, n := range append([]int{0, 1, len(b.E) - 1, len(b.E), api.Keys}, far...) {
				wantEntryError(t, b, n, want)
				wantGrowthError(t, b, n, want)
				wantValueError(t, b, n, want)
			}
		}
	}
}

// TestOnlyReads: neither the book nor the room behind its list is changed, by calls that answer an error either.
func TestOnlyReads(t *testing.T) {
	for n := range api.MaxLeaves + 2 {
		room := many(api.MaxLeaves + 4).E
		b := api.Book{E: room[:n]}
		for i := -1; i <= n+1; i++ {
			Entry(b, i)
			Growth(b, i)
			Value(b, i)
		}
		if !slices.Equal(room, many(api.MaxLeaves+4).E) {
			t.Fatalf("a book of %d entries is changed: %v", n, room)
		}
	}
}

// TestNewMemory: what is answered is the caller's: changing it, and what is put behind it, changes no other answer.
func TestNewMemory(t *testing.T) {
	b := many(7)
	for n := range 7 {
		_, steps, _ := Entry(b, n)
		seals, _ := Growth(b, n+1)
		_, _, l, _ := Value(b, n)
		keptSteps, keptSeals, keptL := slices.Clone(steps), slices.Clone(seals), slices.Clone(l)
		spoil(Entry(b, n))
		spoilTexts(Growth(b, n+1))
		_, _, again, _ := Value(b, n)
		spoilTexts(again, api.OK)
		if !slices.Equal(steps, keptSteps) || !slices.Equal(seals, keptSeals) || !slices.Equal(l, keptL) {
			t.Errorf("answers of %d change with later ones", n)
		}
	}
	if !slices.Equal(b.E, many(7).E) {
		t.Errorf("the book changes with the answers: %v", b)
	}
}

// spoil overwrites all of the steps, and the room behind them.
func spoil(_ api.Entry, l []api.Step, _ api.Errno) {
	for i := range l[:cap(l)] {
		l[:cap(l)][i] = api.Step{Left: true, Seal: "?"}
	}
}

// spoilTexts overwrites all of the seals, and the room behind them.
func spoilTexts(l []string, _ api.Errno) {
	for i := range l[:cap(l)] {
		l[:cap(l)][i] = "?"
	}
}

// FuzzShow: whatever the numbers are, no call panics, and what is answered is shown.
func FuzzShow(f *testing.F) {
	f.Add("5x9y5z", 1)
	f.Add("", 0)
	f.Add(long(60), -1)
	f.Fuzz(func(t *testing.T, s string, n int) {
		var b api.Book
		for i := 0; i+1 < len(s); i += 2 {
			b.E = append(b.E, api.Entry{Key: int(s[i]) % (api.Keys + 1), Value: s[i+1 : i+2]})
		}
		h, wrong := book.Head(b)
		x, steps, e := Entry(b, n)
		if e == api.OK && path.Shows(h.Log, h.N, n, book.Text(x), steps) != api.OK || wrong != api.OK && e != wrong {
			t.Errorf("Entry %d of %v: %v %v %d", n, b, x, steps, e)
		}
		if _, e := Growth(b, n); wrong != api.OK && e != wrong || wrong == api.OK && (e == api.OK) != (n >= 1 && n <= h.N) {
			t.Errorf("Growth from %d of %v: %d", n, b, e)
		}
		v, there, l, e := Value(b, n)
		if e == api.OK && trie.Shows(h.Map, n, v, there, l) != api.OK || wrong != api.OK && e != wrong {
			t.Errorf("Value by %d of %v: %q %t %q %d", n, b, v, there, l, e)
		}
	})
}
