package path

import (
	"math"
	"slices"
	"strings"
	"testing"

	"greatseal/api"
	"greatseal/seal"
	"greatseal/tree"
)

// long is a text of n bytes.
func long(n int) string { return strings.Repeat("x", n) }

// letters is a list of n texts, no two alike.
func letters(n int) []string {
	var l []string
	for i := range n {
		l = append(l, string(rune('a'+i)))
	}
	return l
}

// left and right are steps on either side.
func left(s string) api.Step  { return api.Step{Left: true, Seal: s} }
func right(s string) api.Step { return api.Step{Seal: s} }

// lists are all lists of n of the texts.
func lists(texts []string, n int) [][]string {
	all := [][]string{nil}
	for range n {
		var next [][]string
		for _, l := range all {
			for _, s := range texts {
				next = append(next, append(slices.Clone(l), s))
			}
		}
		all = next
	}
	return all
}

// paths are all paths of n steps, of the seals and of either side.
func paths(seals []string, n int) [][]api.Step {
	all := [][]api.Step{nil}
	for range n {
		var next [][]api.Step
		for _, p := range all {
			for _, s := range seals {
				next = append(next, append(slices.Clone(p), left(s)), append(slices.Clone(p), right(s)))
			}
		}
		all = next
	}
	return all
}

// root is the Root of a list that has one.
func root(t *testing.T, l []string) string {
	t.Helper()
	s, e := tree.Root(l)
	if e != api.OK {
		t.Fatalf("no Root of %q: %d", l, e)
	}
	return s
}

// read is the list that a Root is of, by what the seals alone say.
func read(t *testing.T, s string) []string {
	t.Helper()
	if text, e := seal.Open(s); e == api.OK {
		return []string{text}
	}
	a, b, e := seal.Split(s)
	if e != api.OK {
		t.Fatalf("%q is no part of a Root", s)
	}
	return append(read(t, a), read(t, b)...)
}

func wantOf(t *testing.T, l []string, i int, want []api.Step, wantErr api.Errno) {
	t.Helper()
	if got, e := Of(l, i); !slices.Equal(got, want) || e != wantErr {
		t.Errorf("Of %d texts and %d: %v %d, want %v %d", len(l), i, got, e, want, wantErr)
	}
}

// refused wants that error and no steps, not even an empty list of them.
func refused(t *testing.T, l []string, i int, want api.Errno) {
	t.Helper()
	if got, e := Of(l, i); got != nil || e != want {
		t.Errorf("Of %d texts and %d: %v %d, want %d alone", len(l), i, got, e, want)
	}
}

func wantShows(t *testing.T, root string, n, i int, text string, steps []api.Step, want api.Errno) {
	t.Helper()
	if e := Shows(root, n, i, text, steps); e != want {
		t.Errorf("Shows, text %d of %d, %d steps: %d, want %d", i, n, len(steps), e, want)
	}
}

func TestOf(t *testing.T) {
	for _, x := range []struct {
		n, i int
		want []api.Step
	}{
		{1, 0, nil},
		{2, 0, []api.Step{right("Lb")}},
		{2, 1, []api.Step{left("La")}},
		{3, 0, []api.Step{right("Lb"), right("Lc")}},
		{3, 1, []api.Step{left("La"), right("Lc")}},
		{3, 2, []api.Step{left("N2:LaLb")}},
		{4, 1, []api.Step{left("La"), right("N2:LcLd")}},
		{4, 2, []api.Step{right("Ld"), left("N2:LaLb")}},
		{5, 0, []api.Step{right("Lb"), right("N2:LcLd"), right("Le")}},
		{5, 4, []api.Step{left("N7:N2:LaLbN2:LcLd")}},
		{6, 5, []api.Step{left("Le"), left("N7:N2:LaLbN2:LcLd")}},
		{7, 3, []api.Step{left("Lc"), left("N2:LaLb"), right("N7:N2:LeLfLg")}},
		{7, 5, []api.Step{left("Le"), right("Lg"), left("N7:N2:LaLbN2:LcLd")}},
		{7, 6, []api.Step{left("N2:LeLf"), left("N7:N2:LaLbN2:LcLd")}},
	} {
		wantOf(t, letters(x.n), x.i, x.want, api.OK)
	}
	wantOf(t, []string{"", ""}, 1, []api.Step{left("L")}, api.OK)
	wantOf(t, []string{"E", "La"}, 0, []api.Step{right("LLa")}, api.OK)
}

// TestOfIsWhatStandsBeside: left of a text and right of it, its steps have the other texts in their order, and no more.
func TestOfIsWhatStandsBeside(t *testing.T) {
	for n := 1; n <= api.MaxLeaves; n++ {
		for i, text := range letters(n) {
			steps, e := Of(letters(n), i)
			around := []string{text}
			for _, s := range steps {
				if s.Left {
					around = append(read(t, s.Seal), around...)
				} else {
					around = append(around, read(t, s.Seal)...)
				}
			}
			if e != api.OK || !slices.Equal(around, letters(n)) {
				t.Errorf("around text %d of %d: %q, %d", i, n, around, e)
			}
		}
	}
}

func TestOfHowMany(t *testing.T) {
	for _, x := range []struct{ n, i, want int }{
		{8, 0, 3}, {8, 7, 3}, {9, 0, 4}, {9, 7, 4}, {9, 8, 1}, {16, 15, 4}, {17, 0, 5}, {17, 16, 1}, {24, 0, 5}, {24, 15, 5}, {24, 16, 4}, {24, 23, 4},
	} {
		if steps, e := Of(letters(x.n), x.i); len(steps) != x.want || e != api.OK {
			t.Errorf("Of %d texts and %d: %d steps, %d, want %d", x.n, x.i, len(steps), e, x.want)
		}
	}
}

func TestOfNoSuchText(t *testing.T) {
	for n := 0; n <= api.MaxLeaves; n++ {
		for _, i := range []int{-1, n, n + 1, api.MaxLeaves, math.MinInt, math.MaxInt} {
			refused(t, letters(n), i, api.ErrWho)
		}
	}
	refused(t, nil, 0, api.ErrWho)
	refused(t, []string{}, 0, api.ErrWho)
}

// TestOfNoRoot: what has no Root has no path, and that is told ahead of a text that isn't there.
func TestOfNoRoot(t *testing.T) {
	for _, i := range []int{0, 1, 24, 25, -1, math.MinInt, math.MaxInt} {
		refused(t, make([]string, api.MaxLeaves+1), i, api.ErrMany)
		refused(t, []string{long(api.MaxText + 1)}, i, api.ErrMany)
		refused(t, []string{"a", "b", long(api.MaxText + 1)}, i, api.ErrMany)
		// Each part has a Root here; only the pair of them has none.
		refused(t, []string{long(api.MaxText - 2), "b"}, i, api.ErrMany)
	}
	most := long(api.MaxText - 3)
	wantOf(t, []string{most, "b"}, 0, []api.Step{right("Lb")}, api.OK)
	wantOf(t, []string{most, "b"}, 1, []api.Step{left("L" + most)}, api.OK)
}

// TestWhatIsSoIsShown: the path of each text of each list shows it.
func TestWhatIsSoIsShown(t *testing.T) {
	for n := 1; n <= api.MaxLeaves; n++ {
		for _, l := range [][]string{letters(n), make([]string, n), slices.Repeat([]string{"N2:LaLb"}, n)} {
			for i, text := range l {
				steps, _ := Of(l, i)
				wantShows(t, root(t, l), n, i, text, steps, api.OK)
			}
		}
	}
	most := []string{long(api.MaxText - 3), "b"}
	for i, text := range most {
		steps, _ := Of(most, i)
		wantShows(t, root(t, most), 2, i, text, steps, api.OK)
	}
	wantShows(t, "L"+long(api.MaxText), 1, 0, long(api.MaxText), nil, api.OK)
	wantShows(t, "La", 1, 0, "a", []api.Step{}, api.OK)
}

// TestWhatIsShownIsSo: of a list's Root, at each of its places, the text that stands there is shown, and by its path alone, whatever else is tried.
func TestWhatIsShownIsSo(t *testing.T) {
	texts := []string{"", "a", "La"}
	seals := []string{"", "a", "E", "L", "La", "LLa", "N1:LL", "N2:LaLa", "N1:LLa", "N2:LaL"}
	for n := 1; n <= 4; n++ {
		for _, l := range lists(texts, n) {
			for i := range n {
				onlyItsOwn(t, l, i, append(texts, "E", "b", "N2:LaLa"), seals)
			}
		}
	}
}

// onlyItsOwn tries all of the texts, by all paths that the seals make, at place i.
func onlyItsOwn(t *testing.T, l []string, i int, texts, seals []string) {
	t.Helper()
	all := root(t, l)
	own, _ := Of(l, i)
	for _, steps := range paths(seals, len(own)) {
		for _, text := range texts {
			want := api.ErrFalse
			if text == l[i] && slices.Equal(steps, own) {
				want = api.OK
			}
			if e := Shows(all, len(l), i, text, steps); e != want {
				t.Fatalf("Shows %q at %d of %q by %v: %d, want %d", text, i, l, steps, e, want)
			}
		}
	}
}

// TestNoOtherPlace: neither another text's path, nor another text, nor another place is taken, in a list of any length.
func TestNoOtherPlace(t *testing.T) {
	for n := 1; n <= api.MaxLeaves; n++ {
		// All alike: but for the sides, a path of one text would do for others.
		for _, l := range [][]string{letters(n), make([]string, n)} {
			all := root(t, l)
			for of := range n {
				steps, _ := Of(l, of)
				for i := range n {
					if i != of {
						wantShows(t, all, n, i, l[of], steps, api.ErrFalse)
						wantShows(t, all, n, i, l[i], steps, api.ErrFalse)
					}
				}
				wantShows(t, all, n, of, l[of]+"!", steps, api.ErrFalse)
			}
		}
	}
}

// TestChangedSteps: a step too many, one too few, one turned, one with another seal, two that changed places.
func TestChangedSteps(t *testing.T) {
	for n := 2; n <= api.MaxLeaves; n++ {
		l := letters(n)
		all := root(t, l)
		for i, text := range l {
			steps, _ := Of(l, i)
			wantShows(t, all, n, i, text, nil, api.ErrFalse)
			wantShows(t, all, n, i, text, append(slices.Clone(steps), right("")), api.ErrFalse)
			for at := range steps {
				wantShows(t, all, n, i, text, slices.Delete(slices.Clone(steps), at, at+1), api.ErrFalse)
				wantShows(t, all, n, i, text, slices.Insert(slices.Clone(steps), at, steps[at]), api.ErrFalse)
				turned := slices.Clone(steps)
				turned[at].Left = !turned[at].Left
				wantShows(t, all, n, i, text, turned, api.ErrFalse)
				other := slices.Clone(steps)
				other[at].Seal += "!"
				wantShows(t, all, n, i, text, other, api.ErrFalse)
				if at > 0 {
					swapped := slices.Clone(steps)
					swapped[at-1], swapped[at] = swapped[at], swapped[at-1]
					wantShows(t, all, n, i, text, swapped, api.ErrFalse)
				}
			}
		}
	}
}

func TestOtherRoot(t *testing.T) {
	steps, _ := Of(letters(3), 1)
	for _, s := range []string{"", "E", "x", "Lb", "N2:LaLb", "N7:N2:LaLbLd", "N7:N2:LaLbLc ", " N7:N2:LaLbLc", "N7:N2:LaLbL"} {
		wantShows(t, s, 3, 1, "b", steps, api.ErrFalse)
	}
	wantShows(t, "", 1, 0, "", nil, api.ErrFalse)
	wantShows(t, "E", 1, 0, "", nil, api.ErrFalse)
	wantShows(t, "L", 1, 0, "", nil, api.OK)
}

// TestHowManyIsTaken: n is the caller's to know; where text i of another n has the same steps above it, they do.
func TestHowManyIsTaken(t *testing.T) {
	steps, _ := Of(letters(3), 0)
	wantShows(t, "N7:N2:LaLbLc", 4, 0, "a", steps, api.OK)
	wantShows(t, "N7:N2:LaLbLc", 2, 0, "a", steps, api.ErrFalse)
	wantShows(t, "N7:N2:LaLbLc", 5, 0, "a", steps, api.ErrFalse)
}

// TestShowsTellsTheFirst: of several errors the one that the chapter tells first.
func TestShowsTellsTheFirst(t *testing.T) {
	over := long(api.MaxText + 1)
	for _, n := range []int{0, -1, api.MaxLeaves + 1, math.MinInt, math.MaxInt} {
		for _, i := range []int{0, -1, n, math.MinInt, math.MaxInt} {
			wantShows(t, "x", n, i, over, []api.Step{left(over)}, api.ErrRange)
			wantShows(t, "L", n, i, "", nil, api.ErrRange)
		}
	}
	for _, n := range []int{1, 2, 3, api.MaxLeaves} {
		for _, i := range []int{-1, n, n + 1, math.MinInt, math.MaxInt} {
			wantShows(t, "x", n, i, over, []api.Step{left(over)}, api.ErrWho)
			wantShows(t, "L", n, i, "", nil, api.ErrWho)
		}
	}
	wantShows(t, "x", 1, 0, over, []api.Step{left(over)}, api.ErrFalse)
	wantShows(t, "x", 3, 0, over, []api.Step{right(over)}, api.ErrFalse)
	wantShows(t, "x", 3, 2, over, nil, api.ErrFalse)
	wantShows(t, "x", 1, 0, over, nil, api.ErrMany)
	wantShows(t, "x", 2, 0, over, []api.Step{left(over)}, api.ErrMany)
}

// TestShowsStepByStep: a step's side is held against its place, then its pair is made, and only then comes the next one.
func TestShowsStepByStep(t *testing.T) {
	over := long(api.MaxText)
	wantShows(t, "x", 2, 0, "a", []api.Step{left(over)}, api.ErrFalse)
	wantShows(t, "x", 2, 0, "a", []api.Step{right(over)}, api.ErrMany)
	wantShows(t, "x", 2, 1, "a", []api.Step{left(over)}, api.ErrMany)
	wantShows(t, "x", 3, 0, "a", []api.Step{right(over), left("Lc")}, api.ErrMany)
	wantShows(t, "x", 3, 0, "a", []api.Step{right("Lb"), left(over)}, api.ErrFalse)
	wantShows(t, "x", 3, 0, "a", []api.Step{right("Lb"), right(over)}, api.ErrMany)
	wantShows(t, "x", 3, 1, "a", []api.Step{right(over), right(over)}, api.ErrFalse)
	// A pair may have MaxText bytes, and no more.
	most := long(api.MaxText - 2)
	wantShows(t, "N2:La"+most, 2, 0, "a", []api.Step{right(most)}, api.OK)
	wantShows(t, "N2:La"+most+"x", 2, 0, "a", []api.Step{right(most + "x")}, api.ErrMany)
	wantShows(t, "N19998:"+most+"La", 2, 1, "a", []api.Step{left(most)}, api.OK)
	wantShows(t, "N19999:"+most+"xLa", 2, 1, "a", []api.Step{left(most + "x")}, api.ErrMany)
}

// TestOnlyReads: neither what is handed in nor the room behind it is changed, and no two answers are one.
func TestOnlyReads(t *testing.T) {
	for n := 1; n <= api.MaxLeaves; n++ {
		for i := range n {
			room := letters(api.MaxLeaves + 4)
			first, _ := Of(room[:n], i)
			again, _ := Of(room[:n], i)
			want := slices.Clone(first)
			if !slices.Equal(again, want) || !slices.Equal(room, letters(api.MaxLeaves+4)) {
				t.Errorf("Of %d texts and %d left %q behind, and answered %v and %v", n, i, room, first, again)
			}
			for at := range again {
				again[at] = api.Step{Seal: "other"}
			}
			wide := append(slices.Clone(first), left("behind"))
			wantShows(t, root(t, letters(n)), n, i, room[i], wide[:len(first)], api.OK)
			if !slices.Equal(first, want) || !slices.Equal(wide, append(want, left("behind"))) {
				t.Errorf("of text %d of %d: %v and %v are left, want %v", i, n, first, wide, want)
			}
		}
	}
}

// FuzzShows: whatever is handed in, Shows answers; and what it takes can be read back down from the root.
func FuzzShows(f *testing.F) {
	f.Add("N7:N2:LaLbLc", 3, 1, "b", 2, 1, "La", "Lc")
	f.Add("N7:N2:LaLbLc", 3, 2, "c", 1, 1, "N2:LaLb", "")
	f.Add("La", 1, 0, "a", 0, 0, "", "")
	f.Add("", -1, math.MaxInt, "", 2, 3, "x", "")
	f.Fuzz(func(t *testing.T, root string, n, i int, text string, many, lefts int, a, b string) {
		steps := []api.Step{{Left: lefts&1 != 0, Seal: a}, {Left: lefts&2 != 0, Seal: b}}[:many&1+many>>1&1]
		if Shows(root, n, i, text, steps) != api.OK {
			return
		}
		for _, s := range slices.Backward(steps) {
			x, y, _ := seal.Split(root)
			if s.Left {
				x, y = y, x
			}
			if y != s.Seal {
				t.Fatalf("beside stands %q, not %q", y, s.Seal)
			}
			root = x
		}
		if got, e := seal.Open(root); got != text || e != api.OK {
			t.Fatalf("below stands %q, not %q", got, text)
		}
	})
}
