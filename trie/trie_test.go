package trie

import (
	"maps"
	"math"
	"slices"
	"strconv"
	"strings"
	"testing"

	"greatseal/api"
	"greatseal/seal"
)

// Seals of keys without a value: of one, two, four and eight of them.
const (
	none1 = "E"
	none2 = "N1:EE"
	none4 = "N5:N1:EEN1:EE"
	none8 = "N13:N5:N1:EEN1:EEN5:N1:EEN1:EE"
)

// notKeys are numbers that are no key.
var notKeys = []int{-1, api.Keys, api.Keys + 1, -api.Keys, 1 << 8, math.MinInt, math.MaxInt}

// long is a text of n bytes.
func long(n int) string { return strings.Repeat("x", n) }

// full is a map with a value by each key, no two alike.
func full() map[int]string {
	m := map[int]string{}
	for key := range api.Keys {
		m[key] = string(rune('a' + key))
	}
	return m
}

// alike is a map with that value by each key.
func alike(value string) map[int]string {
	m := map[int]string{}
	for key := range api.Keys {
		m[key] = value
	}
	return m
}

// without is the map but for that key.
func without(m map[int]string, key int) map[int]string {
	m = maps.Clone(m)
	delete(m, key)
	return m
}

// with is the map with that value by key.
func with(m map[int]string, key int, value string) map[int]string {
	m = maps.Clone(m)
	m[key] = value
	return m
}

// samples are good maps: few keys and many, values that look like seals, the longest ones.
func samples() []map[int]string {
	l := []map[int]string{
		{},
		{0: ""},
		{15: "z"},
		{5: "x", 6: ""},
		{0: "E", 1: "L", 2: "LE", 3: "N1:EE"},
		{7: "a", 8: "a"},
		{0: "\xff\x00", 4: " ", 9: ":", 13: "ä"},
		full(),
		alike(""),
		alike("E"),
		alike(long(api.MaxValue)),
	}
	for key := range api.Keys {
		l = append(l, map[int]string{key: "v"}, without(full(), key))
	}
	return l
}

// few are all maps that have, by each of the keys, one of the values or none.
func few(values []string, keys ...int) []map[int]string {
	all := []map[int]string{{}}
	for _, key := range keys {
		var next []map[int]string
		for _, m := range all {
			next = append(next, m)
			for _, v := range values {
				next = append(next, with(m, key, v))
			}
		}
		all = next
	}
	return all
}

// lists are all lists of n of the texts.
func lists(texts []string, n int) [][]string {
	all := [][]string{nil}
	for range n {
		var next [][]string
		for _, l := range all {
			for _, s := range texts {
				next = append(next, append(slices.Clone(l), s))
			}
		}
		all = next
	}
	return all
}

// rows are the seals of single keys, of pairs of them, and so on up to that of all, as the chapters write them.
func rows(m map[int]string) [][]string {
	var row []string
	for key := range api.Keys {
		s := "E"
		if v, there := m[key]; there {
			s = "L" + v
		}
		row = append(row, s)
	}
	all := [][]string{row}
	for len(row) > 1 {
		var next []string
		for i := 0; i < len(row); i += 2 {
			next = append(next, "N"+strconv.Itoa(len(row[i]))+":"+row[i]+row[i+1])
		}
		row = next
		all = append(all, row)
	}
	return all
}

// down reads from a seal, by what the seals alone say, the seal of that key and, from below, what stands beside it.
func down(s string, key int) (below string, l []string, good bool) {
	for n := api.Keys / 2; n > 0; n /= 2 {
		lower, upper, e := seal.Split(s)
		if e != api.OK {
			return "", nil, false
		}
		in, out := lower, upper
		if key&n != 0 {
			in, out = upper, lower
		}
		s, l = in, append([]string{out}, l...)
	}
	return s, l, true
}

// root is the Root of a map that has one.
func root(t *testing.T, m map[int]string) string {
	t.Helper()
	s, e := Root(m)
	if e != api.OK {
		t.Fatalf("no Root of %v: %d", m, e)
	}
	return s
}

// path is the Path of a key that is one.
func path(t *testing.T, m map[int]string, key int) []string {
	t.Helper()
	l, e := Path(m, key)
	if e != api.OK {
		t.Fatalf("no Path of %d in %v: %d", key, m, e)
	}
	return l
}

// refused wants that error of a map, by each call that takes one, and nothing beside it.
func refused(t *testing.T, m map[int]string, want api.Errno) {
	t.Helper()
	if e := Check(m); e != want {
		t.Errorf("Check %v: %d, want %d", m, e, want)
	}
	if s, e := Root(m); s != "" || e != want {
		t.Errorf("Root %v: %q %d, want %d alone", m, s, e, want)
	}
	for _, key := range append([]int{0, 3, 15}, notKeys...) {
		if l, e := Path(m, key); l != nil || e != want {
			t.Errorf("Path %v of %d: %q %d, want %d alone", m, key, l, e, want)
		}
	}
}

func wantShows(t *testing.T, all string, key int, value string, there bool, l []string, want api.Errno) {
	t.Helper()
	if e := Shows(all, key, value, there, l); e != want {
		t.Errorf("Shows key %d, %d bytes, %t, %d seals: %d, want %d", key, len(value), there, len(l), e, want)
	}
}

func TestCheck(t *testing.T) {
	for _, m := range append(samples(), nil) {
		if e := Check(m); e != api.OK {
			t.Errorf("Check %v: %d, want OK", m, e)
		}
	}
}

func TestTooLongValue(t *testing.T) {
	for key := range api.Keys {
		for _, n := range []int{api.MaxValue + 1, api.MaxText, api.MaxText + 1} {
			refused(t, map[int]string{key: long(n)}, api.ErrMany)
			refused(t, with(full(), key, long(n)), api.ErrMany)
		}
		// Bytes are counted, not letters.
		refused(t, map[int]string{key: strings.Repeat("ä", api.MaxValue/2) + "x"}, api.ErrMany)
	}
}

func TestNoSuchKey(t *testing.T) {
	for _, key := range notKeys {
		for _, value := range []string{"", "a", long(api.MaxValue), long(api.MaxValue + 1), long(api.MaxText + 1)} {
			refused(t, map[int]string{key: value}, api.ErrWho)
			refused(t, with(full(), key, value), api.ErrWho)
			refused(t, with(without(full(), 0), key, value), api.ErrWho)
		}
	}
}

// TestValueAheadOfKey: a value that is too long is told, whatever other keys there are and however the map would be gone through.
func TestValueAheadOfKey(t *testing.T) {
	for key := range api.Keys {
		m := map[int]string{key: long(api.MaxValue + 1)}
		for _, other := range notKeys {
			m[other] = ""
			refused(t, m, api.ErrMany)
		}
	}
}

func TestRoot(t *testing.T) {
	for _, x := range []struct {
		m    map[int]string
		want string
	}{
		{nil, "N30:" + none8 + none8},
		{map[int]string{}, "N30:" + none8 + none8},
		{map[int]string{0: ""}, "N30:N13:N5:N1:LEN1:EE" + none4 + none8},
		{map[int]string{1: "a"}, "N31:N14:N6:N1:ELaN1:EE" + none4 + none8},
		{map[int]string{5: "x", 6: ""}, "N31:N13:" + none4 + "N6:N1:ELxN1:LE" + none8},
		{map[int]string{15: "E"}, "N30:" + none8 + "N13:" + none4 + "N5:" + none2 + "N1:ELE"},
		{map[int]string{8: "bc"}, "N30:" + none8 + "N15:N7:N3:LbcE" + none2 + none4},
	} {
		if got, e := Root(x.m); got != x.want || e != api.OK {
			t.Errorf("Root %v: %q %d, want %q", x.m, got, e, x.want)
		}
	}
}

func TestRootAndPathByRows(t *testing.T) {
	for _, m := range append(samples(), few([]string{"", "a"}, 0, 3, 4, 7, 8, 15)...) {
		all := rows(m)
		if got, e := Root(m); got != all[api.Bits][0] || e != api.OK {
			t.Fatalf("Root %v: %q %d, want %q", m, got, e, all[api.Bits][0])
		}
		for key := range api.Keys {
			var want []string
			for bit := range api.Bits {
				want = append(want, all[bit][key>>bit^1])
			}
			if got, e := Path(m, key); !slices.Equal(got, want) || e != api.OK {
				t.Fatalf("Path %v of %d: %q %d, want %q", m, key, got, e, want)
			}
		}
	}
}

// TestNoTwoMaps: no two maps have one Root; a key with an empty value is not a key with none.
func TestNoTwoMaps(t *testing.T) {
	seen := map[string]map[int]string{}
	for _, m := range append(samples(), few([]string{"", "a", "E"}, 0, 1, 2, 7, 8)...) {
		s := root(t, m)
		if other, there := seen[s]; there && !maps.Equal(other, m) {
			t.Errorf("%v and %v have one Root", other, m)
		}
		seen[s] = m
	}
}

func TestPath(t *testing.T) {
	m := map[int]string{5: "x", 6: ""}
	low := "N13:" + none4 + "N6:N1:ELxN1:LE"
	for _, x := range []struct {
		key  int
		want []string
	}{
		{0, []string{none1, none2, "N6:N1:ELxN1:LE", none8}},
		{3, []string{none1, none2, "N6:N1:ELxN1:LE", none8}},
		{4, []string{"Lx", "N1:LE", none4, none8}},
		{5, []string{none1, "N1:LE", none4, none8}},
		{6, []string{none1, "N1:ELx", none4, none8}},
		{7, []string{"L", "N1:ELx", none4, none8}},
		{8, []string{none1, none2, none4, low}},
		{15, []string{none1, none2, none4, low}},
	} {
		if got, e := Path(m, x.key); !slices.Equal(got, x.want) || e != api.OK {
			t.Errorf("Path of %d: %q %d, want %q", x.key, got, e, x.want)
		}
	}
	if got, e := Path(nil, 9); !slices.Equal(got, []string{none1, none2, none4, none8}) || e != api.OK {
		t.Errorf("Path in nothing: %q %d", got, e)
	}
}

func TestPathOfNoKey(t *testing.T) {
	for _, m := range append(samples(), nil) {
		for _, key := range notKeys {
			if l, e := Path(m, key); l != nil || e != api.ErrWho {
				t.Errorf("Path %v of %d: %q %d, want ErrWho alone", m, key, l, e)
			}
		}
	}
}

// TestWhatIsSoIsShown: of each key its value is shown, or that it has none, and neither of them where it isn't so.
func TestWhatIsSoIsShown(t *testing.T) {
	for _, m := range append(samples(), few([]string{"", "a"}, 0, 3, 4, 7, 8, 15)...) {
		all := root(t, m)
		for key := range api.Keys {
			l := path(t, m, key)
			value, there := m[key]
			wantShows(t, all, key, value, there, l, api.OK)
			for _, other := range []string{"", "a", "E", "L", "v", value + "!", "L" + value} {
				want := api.ErrFalse
				if there && other == value {
					want = api.OK
				}
				wantShows(t, all, key, other, true, l, want)
			}
			if there {
				wantShows(t, all, key, "", false, l, api.ErrFalse)
			}
		}
	}
}

// TestWhatIsShownIsSo: of a map's Root, by each of its keys, what it has is shown, and by its Path alone, whatever else is tried.
func TestWhatIsShownIsSo(t *testing.T) {
	for _, m := range few([]string{"", "a"}, 6, 9) {
		seals := []string{"", "L", "La"}
		for _, row := range rows(m) {
			seals = append(seals, row...)
		}
		slices.Sort(seals)
		seals = slices.Compact(seals)
		tries := lists(seals, api.Bits)
		for _, key := range []int{0, 1, 6, 9, 15} {
			onlyItsOwn(t, m, key, tries)
		}
	}
}

// onlyItsOwn tries all of the lists, with some values and with none, by that key.
func onlyItsOwn(t *testing.T, m map[int]string, key int, tries [][]string) {
	t.Helper()
	all, own := root(t, m), path(t, m, key)
	value, there := m[key]
	for _, l := range tries {
		mine := slices.Equal(l, own)
		for _, v := range []string{"", "a", "E"} {
			want := api.ErrFalse
			if mine && there && v == value {
				want = api.OK
			}
			if e := Shows(all, key, v, true, l); e != want {
				t.Fatalf("Shows %q by %d of %v by %q: %d, want %d", v, key, m, l, e, want)
			}
		}
		want := api.ErrFalse
		if mine && !there {
			want = api.OK
		}
		if e := Shows(all, key, "", false, l); e != want {
			t.Fatalf("Shows nothing by %d of %v by %q: %d, want %d", key, m, l, e, want)
		}
	}
}

// TestNoOtherKey: the path of one key shows nothing by another one, but where both paths are alike in all.
func TestNoOtherKey(t *testing.T) {
	for _, m := range samples() {
		all := root(t, m)
		for of := range api.Keys {
			l := path(t, m, of)
			for key := range api.Keys {
				if slices.Equal(l, path(t, m, key)) {
					continue
				}
				wantShows(t, all, key, m[of], true, l, api.ErrFalse)
				wantShows(t, all, key, m[key], true, l, api.ErrFalse)
				wantShows(t, all, key, "", false, l, api.ErrFalse)
			}
		}
	}
}

// TestSidesByKey: the same seals, of no two halves alike, lead to another one by each key.
func TestSidesByKey(t *testing.T) {
	l := []string{"p", "q", "r", "s"}
	seen := map[string]int{}
	for key := range api.Keys {
		all := "Lv"
		for bit, s := range l {
			a, b := all, s
			if key>>bit&1 == 1 {
				a, b = s, all
			}
			all = "N" + strconv.Itoa(len(a)) + ":" + a + b
		}
		for other := range api.Keys {
			want := api.ErrFalse
			if other == key {
				want = api.OK
			}
			wantShows(t, all, other, "v", true, l, want)
		}
		seen[all]++
	}
	if len(seen) != api.Keys {
		t.Errorf("%d seals of %d keys", len(seen), api.Keys)
	}
}

// TestChangedSeals: one too many at either end, one too few, one twice, another one, two that changed places.
func TestChangedSeals(t *testing.T) {
	for _, m := range samples() {
		all := root(t, m)
		for key := range api.Keys {
			own := path(t, m, key)
			value, there := m[key]
			for _, s := range []string{"", "E", all} {
				wantShows(t, all, key, value, there, append([]string{s}, own...), api.ErrFalse)
				wantShows(t, all, key, value, there, append(slices.Clone(own), s), api.ErrFalse)
			}
			for at := range own {
				wantShows(t, all, key, value, there, slices.Delete(slices.Clone(own), at, at+1), api.ErrFalse)
				wantShows(t, all, key, value, there, slices.Insert(slices.Clone(own), at, own[at]), api.ErrFalse)
				other := slices.Clone(own)
				other[at] += "!"
				wantShows(t, all, key, value, there, other, api.ErrFalse)
				if at > 0 {
					swapped := slices.Clone(own)
					swapped[at-1], swapped[at] = swapped[at], swapped[at-1]
					wantShows(t, all, key, value, there, swapped, api.ErrFalse)
				}
			}
		}
	}
}

// TestChangedMap: the path of a map shows nothing of the Root of another one, wherever they differ.
func TestChangedMap(t *testing.T) {
	all := root(t, full())
	for at := range api.Keys {
		for _, m := range []map[int]string{without(full(), at), with(full(), at, ""), with(full(), at, "!")} {
			for key := range api.Keys {
				value, there := m[key]
				wantShows(t, all, key, value, there, path(t, m, key), api.ErrFalse)
				wantShows(t, root(t, m), key, full()[key], true, path(t, full(), key), api.ErrFalse)
			}
		}
	}
}

func TestOtherRoot(t *testing.T) {
	m := map[int]string{5: "x", 6: ""}
	for key := range api.Keys {
		value, there := m[key]
		l := path(t, m, key)
		for _, s := range []string{"", "E", "x", "Lx", l[3], root(t, m) + " ", " " + root(t, m), root(t, m)[1:], root(t, nil), root(t, full())} {
			wantShows(t, s, key, value, there, l, api.ErrFalse)
		}
	}
}

// TestShowsTellsTheFirst: of several errors the one that the chapter tells first.
func TestShowsTellsTheFirst(t *testing.T) {
	over := long(api.MaxText + 1)
	wide := slices.Repeat([]string{over}, api.Bits)
	counts := [][]string{nil, {}, {""}, make([]string, api.Bits-1), make([]string, api.Bits+1), make([]string, api.Keys), {over}}
	for _, l := range append(counts, wide, make([]string, api.Bits)) {
		for _, key := range notKeys {
			for _, value := range []string{"", "a", over} {
				wantShows(t, "x", key, value, false, l, api.ErrWho)
				wantShows(t, "x", key, value, true, l, api.ErrWho)
			}
		}
		for _, key := range []int{0, 5, api.Keys - 1} {
			for _, value := range []string{"a", " ", "E", over} {
				wantShows(t, "x", key, value, false, l, api.ErrForm)
			}
		}
	}
	for _, l := range counts {
		for _, key := range []int{0, 5, api.Keys - 1} {
			wantShows(t, "x", key, "", false, l, api.ErrFalse)
			wantShows(t, "x", key, over, true, l, api.ErrFalse)
		}
	}
	wantShows(t, "x", 0, over, true, make([]string, api.Bits), api.ErrMany)
	wantShows(t, "x", 0, "", false, wide, api.ErrMany)
	wantShows(t, "", 0, "", false, wide, api.ErrMany)
	wantShows(t, "x", 0, "a", true, wide, api.ErrMany)
	// The right seals don't help a value that is handed in with a key that has none.
	wantShows(t, root(t, nil), 0, "E", false, path(t, nil, 0), api.ErrForm)
}

// TestShowsFewerSeals: less than Bits seals show nothing, though they lead to a seal.
func TestShowsFewerSeals(t *testing.T) {
	wantShows(t, "Lx", 0, "x", true, nil, api.ErrFalse)
	wantShows(t, "E", 0, "", false, nil, api.ErrFalse)
	wantShows(t, none2, 0, "", false, []string{none1}, api.ErrFalse)
	wantShows(t, none8, 7, "", false, []string{none1, none2, none4}, api.ErrFalse)
	more := "N64:" + root(t, nil) + root(t, nil)
	wantShows(t, more, 0, "", false, append(path(t, nil, 0), root(t, nil)), api.ErrFalse)
}

// TestShowsTooMuch: a pair may have MaxText bytes, on either side and at each step, and no more.
func TestShowsTooMuch(t *testing.T) {
	for key := range api.Keys {
		sofar := "Lv"
		for at := range api.Bits {
			l := make([]string, api.Bits)
			l[at] = long(api.MaxText - len(sofar) + 1)
			wantShows(t, "x", key, "v", true, l, api.ErrMany)
			wantShows(t, "", key, "v", true, l, api.ErrMany)
			if at == api.Bits-1 {
				l[at] = l[at][1:]
				a, b := sofar, l[at]
				if key&8 != 0 {
					a, b = b, a
				}
				wantShows(t, "N"+strconv.Itoa(len(a))+":"+a+b, key, "v", true, l, api.OK)
				wantShows(t, "x", key, "v", true, l, api.ErrFalse)
			}
			if key>>at&1 == 1 {
				sofar = "N0:" + sofar
			} else {
				sofar = "N" + strconv.Itoa(len(sofar)) + ":" + sofar
			}
		}
	}
}

// TestShowsLongValue: of a value Shows asks what Leaf asks; that one of more than MaxValue bytes is in no map is the Root's to say.
func TestShowsLongValue(t *testing.T) {
	l := []string{none1, none2, none4, none8}
	for _, n := range []int{api.MaxValue, api.MaxValue + 1, 1000} {
		all := "L" + long(n)
		for _, s := range l {
			all = "N" + strconv.Itoa(len(all)) + ":" + all + s
		}
		wantShows(t, all, 0, long(n), true, l, api.OK)
		wantShows(t, all, 0, long(n+1), true, l, api.ErrFalse)
	}
	wantShows(t, "x", 0, long(api.MaxText), true, l, api.ErrMany)
}

// TestOnlyReads: neither what is handed in nor the room behind it is changed, and no two answers are one.
func TestOnlyReads(t *testing.T) {
	for at, m := range samples() {
		before := maps.Clone(m)
		all := root(t, m)
		for key := range api.Keys {
			first, again := path(t, m, key), path(t, m, key)
			want := slices.Clone(first)
			if !slices.Equal(again, want) {
				t.Errorf("map %d, key %d: %q, then %q", at, key, first, again)
			}
			for i := range again {
				again[i] = "other"
			}
			wide := append(slices.Clone(first), "behind")
			value, there := m[key]
			wantShows(t, all, key, value, there, wide[:api.Bits], api.OK)
			if !slices.Equal(first, want) || !slices.Equal(wide, append(want, "behind")) {
				t.Errorf("map %d, key %d: %q and %q are left, want %q", at, key, first, wide, want)
			}
		}
		if e := Check(m); e != api.OK || !maps.Equal(m, before) {
			t.Errorf("map %d: %v is left, want %v (%d)", at, m, before, e)
		}
	}
	bad := map[int]string{3: long(api.MaxValue + 1), -1: "a"}
	refused(t, bad, api.ErrMany)
	if !maps.Equal(bad, map[int]string{3: long(api.MaxValue + 1), -1: "a"}) {
		t.Errorf("%v is left of a map that was refused", bad)
	}
}

// FuzzShows: whatever is handed in, Shows answers; and what it takes is what can be read down from the seal.
func FuzzShows(f *testing.F) {
	f.Add("N31:N13:"+none4+"N6:N1:ELxN1:LE"+none8, 4, "", false, 4, "Lx", "N1:LE", none4, none8)
	f.Add("N31:N13:"+none4+"N6:N1:ELxN1:LE"+none8, 5, "x", true, 4, "E", "N1:LE", none4, none8)
	f.Add("Lx", 0, "x", true, 0, "", "", "", "")
	f.Add("", math.MinInt, "", false, 4, "x", "", "", "")
	f.Fuzz(func(t *testing.T, all string, key int, value string, there bool, many int, a, b, c, d string) {
		l := []string{a, b, c, d, a}[:min(max(many, 0), 5)]
		if Shows(all, key, value, there, l) != api.OK {
			return
		}
		below, list, good := down(all, key)
		want := "E"
		if there {
			want = "L" + value
		}
		if !good || below != want || !slices.Equal(list, l) {
			t.Fatalf("by %d stands %q, beside %q, not %q, beside %q", key, below, list, want, l)
		}
	})
}
