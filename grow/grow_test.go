package grow

import (
	"math"
	"slices"
	"strings"
	"testing"

	"greatseal/api"
	"greatseal/seal"
	"greatseal/tree"
)

// long is a text of n bytes.
func long(n int) string { return strings.Repeat("x", n) }

// letters is a list of n texts, no two alike.
func letters(n int) []string {
	var l []string
	for i := range n {
		l = append(l, string(rune('a'+i)))
	}
	return l
}

// lists are all lists of n of the texts.
func lists(texts []string, n int) [][]string {
	all := [][]string{nil}
	for range n {
		var next [][]string
		for _, l := range all {
			for _, s := range texts {
				next = append(next, append(slices.Clone(l), s))
			}
		}
		all = next
	}
	return all
}

// root is the Root of a list that has one.
func root(t *testing.T, l []string) string {
	t.Helper()
	s, e := tree.Root(l)
	if e != api.OK {
		t.Fatalf("no Root of %q: %d", l, e)
	}
	return s
}

// down reads from the Root of n texts, by what the seals alone say, the seal of the first m and what shows it.
func down(s string, m, n int, known bool) (old string, l []string, good bool) {
	if m == n && known {
		return s, nil, true
	}
	if m == n {
		return s, []string{s}, true
	}
	a, b, e := seal.Split(s)
	if e != api.OK {
		return "", nil, false
	}
	k, _ := tree.Half(n)
	if m <= k {
		old, l, good = down(a, m, k, known)
		return old, append(l, b), good
	}
	old, l, good = down(b, m-k, n-k, false)
	old, _ = seal.Node(a, old)
	return old, append(l, a), good
}

func wantOf(t *testing.T, l []string, m int, want []string, wantErr api.Errno) {
	t.Helper()
	if got, e := Of(l, m); !slices.Equal(got, want) || e != wantErr {
		t.Errorf("Of %d texts and %d: %q %d, want %q %d", len(l), m, got, e, want, wantErr)
	}
}

// refused wants that error and no seals, not even an empty list of them.
func refused(t *testing.T, l []string, m int, want api.Errno) {
	t.Helper()
	if got, e := Of(l, m); got != nil || e != want {
		t.Errorf("Of %d texts and %d: %q %d, want %d alone", len(l), m, got, e, want)
	}
}

func wantShows(t *testing.T, old string, m int, root string, n int, l []string, want api.Errno) {
	t.Helper()
	if e := Shows(old, m, root, n, l); e != want {
		t.Errorf("Shows, %d of %d, %d seals: %d, want %d", m, n, len(l), e, want)
	}
}

func TestOf(t *testing.T) {
	four := "N7:N2:LaLbN2:LcLd"
	for _, x := range []struct {
		n, m int
		want []string
	}{
		{1, 1, nil},
		{2, 1, []string{"Lb"}},
		{2, 2, nil},
		{3, 1, []string{"Lb", "Lc"}},
		{3, 2, []string{"Lc"}},
		{3, 3, nil},
		{4, 1, []string{"Lb", "N2:LcLd"}},
		{4, 2, []string{"N2:LcLd"}},
		{4, 3, []string{"Lc", "Ld", "N2:LaLb"}},
		{5, 1, []string{"Lb", "N2:LcLd", "Le"}},
		{5, 3, []string{"Lc", "Ld", "N2:LaLb", "Le"}},
		{5, 4, []string{"Le"}},
		{6, 4, []string{"N2:LeLf"}},
		{6, 5, []string{"Le", "Lf", four}},
		{7, 4, []string{"N7:N2:LeLfLg"}},
		{7, 5, []string{"Le", "Lf", "Lg", four}},
		{7, 6, []string{"N2:LeLf", "Lg", four}},
		{8, 6, []string{"N2:LeLf", "N2:LgLh", four}},
		{8, 7, []string{"Lg", "Lh", "N2:LeLf", four}},
		{9, 7, []string{"Lg", "Lh", "N2:LeLf", four, "Li"}},
	} {
		wantOf(t, letters(x.n), x.m, x.want, api.OK)
	}
	wantOf(t, []string{"", ""}, 1, []string{"L"}, api.OK)
	wantOf(t, []string{"E", "La"}, 1, []string{"LLa"}, api.OK)
}

// TestOfIsWhatTheRootSays: of each m of each n, Of is what can be read down from the two Roots.
func TestOfIsWhatTheRootSays(t *testing.T) {
	for n := 1; n <= api.MaxLeaves; n++ {
		for m := 1; m <= n; m++ {
			old, want, good := down(root(t, letters(n)), m, n, true)
			if !good || old != root(t, letters(m)) {
				t.Fatalf("the Root of %d texts doesn't have that of %d in it", n, m)
			}
			wantOf(t, letters(n), m, want, api.OK)
		}
	}
}

func TestOfOutOfRange(t *testing.T) {
	for n := 0; n <= api.MaxLeaves; n++ {
		for _, m := range []int{0, -1, n + 1, api.MaxLeaves + 1, math.MinInt, math.MaxInt} {
			refused(t, letters(n), m, api.ErrRange)
		}
	}
	refused(t, nil, 1, api.ErrRange)
	refused(t, []string{}, 0, api.ErrRange)
}

// TestOfNoRoot: what has no Root is told ahead of an m that isn't among them.
func TestOfNoRoot(t *testing.T) {
	for _, m := range []int{0, 1, 2, 24, 25, 26, -1, math.MinInt, math.MaxInt} {
		refused(t, make([]string, api.MaxLeaves+1), m, api.ErrMany)
		refused(t, []string{long(api.MaxText + 1)}, m, api.ErrMany)
		refused(t, []string{"a", "b", long(api.MaxText + 1)}, m, api.ErrMany)
		// Each part has a Root here; only the pair of them has none.
		refused(t, []string{long(api.MaxText - 2), "b"}, m, api.ErrMany)
	}
	most := long(api.MaxText - 3)
	wantOf(t, []string{most, "b"}, 1, []string{"Lb"}, api.OK)
	wantOf(t, []string{"b", most}, 1, []string{"L" + most}, api.OK)
}

// TestWhatIsSoIsShown: each list that goes on is shown to go on where it was.
func TestWhatIsSoIsShown(t *testing.T) {
	for n := 1; n <= api.MaxLeaves; n++ {
		for _, l := range [][]string{letters(n), make([]string, n), slices.Repeat([]string{"N2:LaLb"}, n)} {
			for m := 1; m <= n; m++ {
				list, _ := Of(l, m)
				wantShows(t, root(t, l[:m]), m, root(t, l), n, list, api.OK)
			}
		}
	}
	most := []string{long(api.MaxText - 3), "b"}
	list, _ := Of(most, 1)
	wantShows(t, root(t, most[:1]), 1, root(t, most), 2, list, api.OK)
	wantShows(t, "La", 1, "La", 1, nil, api.OK)
	wantShows(t, "La", 1, "La", 1, []string{}, api.OK)
}

// TestWhatIsShownIsSo: of a list's Root, the Root of its first m is shown, and by their own seals alone, whatever else is tried.
func TestWhatIsShownIsSo(t *testing.T) {
	seals := []string{"", "E", "L", "La", "LLa", "N1:LL", "N2:LaLa", "N1:LLa", "N2:LaL"}
	for n := 1; n <= 5; n++ {
		for _, l := range lists([]string{"", "a"}, n) {
			for m := 1; m <= n; m++ {
				onlyItsOwn(t, l, m, seals)
			}
		}
	}
}

// onlyItsOwn tries all lists that the seals make, for the old Roots that there are of m texts, and for what is none.
func onlyItsOwn(t *testing.T, l []string, m int, seals []string) {
	t.Helper()
	all, first := root(t, l), root(t, l[:m])
	own, _ := Of(l, m)
	olds := []string{"", "E", all, all + "!"}
	for _, other := range lists([]string{"", "a"}, m) {
		olds = append(olds, root(t, other))
	}
	for _, list := range lists(seals, len(own)) {
		for _, old := range olds {
			want := api.ErrFalse
			if old == first && slices.Equal(list, own) {
				want = api.OK
			}
			if e := Shows(old, m, all, len(l), list); e != want {
				t.Fatalf("Shows %q of %d by %q, of %q: %d, want %d", old, m, list, l, e, want)
			}
		}
	}
}

// TestListThatParted: a list that goes on otherwise than it was, at any text of the old one, is not shown by the seals of either.
func TestListThatParted(t *testing.T) {
	for n := 1; n <= api.MaxLeaves; n++ {
		for m := 1; m <= n; m++ {
			old := root(t, letters(m))
			own, _ := Of(letters(n), m)
			for at := range m {
				parted := letters(n)
				parted[at] += "!"
				list, _ := Of(parted, m)
				wantShows(t, old, m, root(t, parted), n, list, api.ErrFalse)
				wantShows(t, old, m, root(t, parted), n, own, api.ErrFalse)
				wantShows(t, root(t, parted[:m]), m, root(t, letters(n)), n, list, api.ErrFalse)
				wantShows(t, root(t, parted[:m]), m, root(t, letters(n)), n, own, api.ErrFalse)
			}
		}
	}
}

// TestChangedSeals: one too many at either end, one too few, one twice, another one, two that changed places.
func TestChangedSeals(t *testing.T) {
	for n := 1; n <= api.MaxLeaves; n++ {
		for m := 1; m <= n; m++ {
			old, all := root(t, letters(m)), root(t, letters(n))
			own, _ := Of(letters(n), m)
			for _, s := range []string{"", "E", old, all} {
				wantShows(t, old, m, all, n, append([]string{s}, own...), api.ErrFalse)
				wantShows(t, old, m, all, n, append(slices.Clone(own), s), api.ErrFalse)
			}
			for at := range own {
				wantShows(t, old, m, all, n, slices.Delete(slices.Clone(own), at, at+1), api.ErrFalse)
				wantShows(t, old, m, all, n, slices.Insert(slices.Clone(own), at, own[at]), api.ErrFalse)
				other := slices.Clone(own)
				other[at] += "!"
				wantShows(t, old, m, all, n, other, api.ErrFalse)
				if at > 0 {
					swapped := slices.Clone(own)
					swapped[at-1], swapped[at] = swapped[at], swapped[at-1]
					wantShows(t, old, m, all, n, swapped, api.ErrFalse)
				}
			}
		}
	}
}

// TestWantingSeals: a seal that is wanting isn't an empty one, though Roots can be made with that.
func TestWantingSeals(t *testing.T) {
	wantShows(t, "La", 1, "N2:La", 2, []string{""}, api.OK)
	wantShows(t, "La", 1, "N2:La", 2, nil, api.ErrFalse)
	wantShows(t, "La", 1, "N4:N2:La", 3, nil, api.ErrFalse)
	wantShows(t, "La", 1, "N5:N2:LaLc", 3, []string{"", "Lc"}, api.OK)
	wantShows(t, "La", 1, "N5:N2:LaLc", 3, []string{"Lc"}, api.ErrFalse)
	wantShows(t, "N0:", 3, "N0:N0:", 4, []string{"", "", ""}, api.OK)
	for have := range 3 {
		wantShows(t, "N0:", 3, "N0:N0:", 4, make([]string, have), api.ErrFalse)
	}
}

func TestOtherRoots(t *testing.T) {
	for n := 1; n <= api.MaxLeaves; n++ {
		for m := 1; m <= n; m++ {
			old, all := root(t, letters(m)), root(t, letters(n))
			own, _ := Of(letters(n), m)
			for _, s := range []string{"", "E", "x", "L", root(t, letters(n + 1)[1:])} {
				wantShows(t, s, m, all, n, own, api.ErrFalse)
				wantShows(t, old, m, s, n, own, api.ErrFalse)
			}
			wantShows(t, old+"!", m, all, n, own, api.ErrFalse)
			wantShows(t, old, m, all+"!", n, own, api.ErrFalse)
			if m != n {
				wantShows(t, all, m, old, n, own, api.ErrFalse)
				wantShows(t, all, m, all, n, own, api.ErrFalse)
			}
		}
	}
}

// TestNoOtherM: the seals that show the first m of a list don't show another number of them.
func TestNoOtherM(t *testing.T) {
	for n := 1; n <= api.MaxLeaves; n++ {
		for m := 1; m <= n; m++ {
			own, _ := Of(letters(n), m)
			for other := 1; other <= n; other++ {
				if other != m {
					wantShows(t, root(t, letters(m)), other, root(t, letters(n)), n, own, api.ErrFalse)
					wantShows(t, root(t, letters(other)), other, root(t, letters(n)), n, own, api.ErrFalse)
				}
			}
		}
	}
}

// TestHowManyIsTaken: n is the caller's to know; where another n parts alike on the way, the seals do.
func TestHowManyIsTaken(t *testing.T) {
	wantShows(t, "N2:LaLb", 2, "N7:N2:LaLbLc", 4, []string{"Lc"}, api.OK)
	wantShows(t, "N2:LaLb", 2, "N7:N2:LaLbLc", 5, []string{"Lc"}, api.ErrFalse)
	// A list that went on by nothing is shown by nothing, and its Root is not looked into.
	wantShows(t, "x", 7, "x", 7, nil, api.OK)
	wantShows(t, long(api.MaxText+1), 7, long(api.MaxText+1), 7, nil, api.OK)
	wantShows(t, "x", 7, "x", 7, []string{"x"}, api.ErrFalse)
}

// TestShowsOutOfRange: an m or an n that can't be is told ahead of what isn't shown.
func TestShowsOutOfRange(t *testing.T) {
	for _, n := range []int{math.MinInt, -1, 0, 1, 2, api.MaxLeaves, api.MaxLeaves + 1, math.MaxInt} {
		for _, m := range []int{math.MinInt, -1, 0, 1, 2, api.MaxLeaves, api.MaxLeaves + 1, math.MaxInt} {
			want := api.OK
			if m < 1 || m > n || n > api.MaxLeaves {
				want = api.ErrRange
			} else if m != n {
				want = api.ErrFalse
			}
			wantShows(t, "La", m, "La", n, nil, want)
		}
	}
	wantShows(t, "x", 0, "y", 5, []string{long(api.MaxText + 1)}, api.ErrRange)
	wantShows(t, "x", 6, "y", 5, []string{long(api.MaxText + 1)}, api.ErrRange)
	wantShows(t, "x", 1, "y", api.MaxLeaves+1, nil, api.ErrRange)
	wantShows(t, "x", api.MaxLeaves+1, "x", api.MaxLeaves+1, nil, api.ErrRange)
}

// TestShowsTooMuch: a pair may have MaxText bytes; one that would have more is not shown, whichever of the two Roots it stands in.
func TestShowsTooMuch(t *testing.T) {
	most := long(api.MaxText - 2)
	wantShows(t, "La", 1, "N2:La"+most, 2, []string{most}, api.OK)
	wantShows(t, "La", 1, "N2:La"+most+"x", 2, []string{most + "x"}, api.ErrFalse)
	wantShows(t, most, 1, "N19998:"+most+"Lb", 2, []string{"Lb"}, api.OK)
	wantShows(t, most+"x", 1, "N19999:"+most+"xLb", 2, []string{"Lb"}, api.ErrFalse)
	// Of the first three there is a seal, of all four there is none.
	wantShows(t, "N2:AB"+most, 3, "N2:ABN19998:"+most+"D", 4, []string{most, "D", "AB"}, api.ErrFalse)
	// Of neither there is one.
	wantShows(t, "N3:ABC"+most, 3, "N3:ABCN19998:"+most+"D", 4, []string{most, "D", "ABC"}, api.ErrFalse)
	wider := long(api.MaxText - 5)
	wantShows(t, "N19995:"+wider+"C", 3, "N19995:"+wider+"N1:CD", 4, []string{"C", "D", wider}, api.OK)
	wider += "x"
	wantShows(t, "N19996:"+wider+"C", 3, "N19996:"+wider+"N1:CD", 4, []string{"C", "D", wider}, api.ErrFalse)
	// A seal that is refused isn't an empty one.
	wantShows(t, "N19996:"+wider+"C", 3, "", 4, []string{"C", "D", wider}, api.ErrFalse)
	wantShows(t, "", 1, "", 2, []string{long(api.MaxText + 1)}, api.ErrFalse)
	wantShows(t, "La", 1, "", 2, []string{long(api.MaxText)}, api.ErrFalse)
	wantShows(t, "", 3, "", 4, []string{"", "", long(api.MaxText + 1)}, api.ErrFalse)
}

// TestOnlyReads: neither what is handed in nor the room behind it is changed, and no two answers are one.
func TestOnlyReads(t *testing.T) {
	for n := 1; n <= api.MaxLeaves; n++ {
		for m := 1; m <= n; m++ {
			room := letters(api.MaxLeaves + 4)
			first, _ := Of(room[:n], m)
			again, _ := Of(room[:n], m)
			want := slices.Clone(first)
			if !slices.Equal(again, want) || !slices.Equal(room, letters(api.MaxLeaves+4)) {
				t.Errorf("Of %d texts and %d left %q behind, and answered %q and %q", n, m, room, first, again)
			}
			for at := range again {
				again[at] = "other"
			}
			wide := append(slices.Clone(first), "behind")
			wantShows(t, root(t, letters(m)), m, root(t, letters(n)), n, wide[:len(first)], api.OK)
			if !slices.Equal(first, want) || !slices.Equal(wide, append(want, "behind")) {
				t.Errorf("of %d of %d: %q and %q are left, want %q", m, n, first, wide, want)
			}
		}
	}
}

// FuzzShows: whatever is handed in, Shows answers; and what it takes is what can be read down from the root.
func FuzzShows(f *testing.F) {
	f.Add("N7:N2:LaLbLc", 3, "N17:N7:N2:LaLbN2:LcLdLe", 5, 4, "Lc", "Ld", "N2:LaLb", "Le")
	f.Add("N2:LaLb", 2, "N7:N2:LaLbLc", 3, 1, "Lc", "", "", "")
	f.Add("La", 1, "La", 1, 0, "", "", "", "")
	f.Add("", math.MinInt, "", math.MaxInt, 3, "x", "", "", "")
	f.Fuzz(func(t *testing.T, old string, m int, root string, n, many int, a, b, c, d string) {
		l := []string{a, b, c, d}[:min(max(many, 0), 4)]
		if Shows(old, m, root, n, l) != api.OK {
			return
		}
		first, list, good := down(root, m, n, true)
		if !good || first != old || !slices.Equal(list, l) {
			t.Fatalf("%q begins with %q, by %q, not with %q, by %q", root, first, list, old, l)
		}
	})
}
