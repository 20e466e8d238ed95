package story

import (
	"slices"
	"strconv"
	"testing"

	"greatseal/api"
	"greatseal/world"
)

// tale is a world that came from New, with the entries that each client was shown when it took its head.
type tale struct {
	w    api.World
	seen [api.MaxClients][]api.Entry
	n    *counts
}

// counts are how often something came about, so that a test can tell that it tried enough.
type counts struct{ followed, caught, agreed, found int }

func begin() tale { return tale{w: world.New(), n: &counts{}} }

func puts(side, key int, value string) api.Happening {
	return api.Happening{Kind: api.HPut, Side: side, E: api.Entry{Key: key, Value: value}}
}

func forks() api.Happening { return api.Happening{Kind: api.HFork} }

func shown(who, side int) api.Happening {
	return api.Happening{Kind: api.HShow, Who: who, Side: side}
}

func meets(who, other int) api.Happening {
	return api.Happening{Kind: api.HMeet, Who: who, Other: other}
}

// begins says whether the list goes on where the old one was.
func begins(l, old []api.Entry) bool {
	return len(old) <= len(l) && slices.Equal(l[:len(old)], old)
}

// of is Of where nothing is wrong.
func of(t *testing.T, w api.World, who, side int) bool {
	t.Helper()
	is, e := Of(w, who, side)
	if e != api.OK {
		t.Fatalf("Of %d %d in %s: %d", who, side, tell(w), e)
	}
	return is
}

// split is Split where nothing is wrong.
func split(t *testing.T, w api.World) int {
	t.Helper()
	n, e := Split(w)
	if e != api.OK {
		t.Fatalf("Split %s: %d", tell(w), e)
	}
	return n
}

// goesOn lets x happen, and asks all that is promised of it; where it is an error, nothing changes.
func (s tale) goesOn(t *testing.T, x api.Happening) (tale, bool) {
	t.Helper()
	next, e := world.Do(s.w, x)
	if e != api.OK {
		return s, false
	}
	want := slices.Clone(s.w.C)
	switch x.Kind {
	case api.HShow:
		want[x.Who] = s.follows(t, x.Who, x.Side)
	case api.HMeet:
		if s.findsOut(t, x.Who, x.Other, next.C) {
			want[x.Who].Fooled, want[x.Other].Fooled = true, true
		}
	}
	if !slices.Equal(next.C, want) {
		t.Fatalf("%+v of %s: clients %+v, want %+v", x, tell(s.w), next.C, want)
	}
	s.w = next
	s.isTold(t)
	return s, true
}

// follows is the client after it was shown that book: it goes by it where its head was of it, and is Fooled where it wasn't.
func (s *tale) follows(t *testing.T, who, side int) api.Client {
	t.Helper()
	c, l := s.w.C[who], s.w.B[side].E
	if begins(l, s.seen[who]) != of(t, s.w, who, side) {
		t.Fatalf("client %d saw %v; Of %d in %s is another", who, s.seen[who], side, tell(s.w))
	}
	if !begins(l, s.seen[who]) {
		s.n.caught++
		return api.Client{H: c.H, Fooled: true}
	}
	s.n.followed++
	s.seen[who] = l
	return api.Client{H: head(t, s.w.B[side]), Fooled: c.Fooled}
}

// findsOut says whether two clients find that there are two books: those of one book don't, and those of books that parted before both heads do. Where a head is of no book any more, nothing is promised but what follows from both lists; that is taken as it came.
func (s *tale) findsOut(t *testing.T, who, other int, came []api.Client) bool {
	t.Helper()
	parting := split(t, s.w)
	behind := s.w.C[who].H.N > parting && s.w.C[other].H.N > parting
	for side := range 2 {
		if of(t, s.w, who, side) && of(t, s.w, other, side) {
			s.n.agreed++
			return false
		}
		if behind && of(t, s.w, who, side) && of(t, s.w, other, 1-side) {
			s.n.found++
			return true
		}
	}
	if !begins(s.seen[who], s.seen[other]) && !begins(s.seen[other], s.seen[who]) {
		s.n.found++
		return true
	}
	return came[who].Fooled && came[other].Fooled
}

// isTold asks that Of and Split tell of this world what its entries tell.
func (s tale) isTold(t *testing.T) {
	t.Helper()
	one, two := s.w.B[0].E, s.w.B[1].E
	for who, seen := range s.seen {
		for side, b := range s.w.B {
			if of(t, s.w, who, side) != begins(b.E, seen) {
				t.Fatalf("client %d saw %v; Of %d in %s is another", who, seen, side, tell(s.w))
			}
		}
	}
	n := split(t, s.w)
	if !begins(one, two[:n]) || n < len(one) && n < len(two) && one[n] == two[n] {
		t.Fatalf("Split %s: %d", tell(s.w), n)
	}
}

// isFooled says whether any client is.
func (s tale) isFooled() bool {
	return slices.ContainsFunc(s.w.C, func(c api.Client) bool { return c.Fooled })
}

// walk goes on with each of the letters, so many times, and lets ask be asked of each world.
func (s tale) walk(t *testing.T, letters []api.Happening, depth int, ask func(tale)) {
	t.Helper()
	for _, x := range letters {
		if next, changed := s.goesOn(t, x); changed {
			ask(next)
			if depth > 1 {
				next.walk(t, letters, depth-1, ask)
			}
		}
	}
}

// run goes on with the whole script.
func (s tale) run(t *testing.T, l []api.Happening) tale {
	t.Helper()
	for _, x := range l {
		s, _ = s.goesOn(t, x)
	}
	return s
}

// TestTheyKnow: the document's example: two clients saw five entries each, of books that parted at three; when they meet they know.
func TestTheyKnow(t *testing.T) {
	var l []api.Happening
	for i := range 3 {
		l = append(l, puts(0, i, "v"))
	}
	l = append(l, forks(), shown(0, 0), shown(1, 1), shown(2, 0))
	for i := range 2 {
		l = append(l, puts(0, 7, strconv.Itoa(i)), puts(1, 8, strconv.Itoa(i)))
	}
	s := begin().run(t, append(l, shown(0, 0), shown(1, 1)))
	if n := split(t, s.w); n != 3 || s.isFooled() {
		t.Fatalf("they parted at %d: %s", n, tell(s.w))
	}
	for _, of := range []struct {
		who, side int
		want      bool
	}{{0, 0, true}, {0, 1, false}, {1, 0, false}, {1, 1, true}, {2, 0, true}, {2, 1, true}} {
		wantOf(t, s.w, of.who, of.side, of.want)
	}
	// Who saw three knows nothing, whomever they meet.
	if s = s.run(t, []api.Happening{meets(0, 2), meets(2, 1), meets(2, 2)}); s.isFooled() {
		t.Fatalf("a client that saw three is Fooled: %s", tell(s.w))
	}
	s = s.run(t, []api.Happening{meets(0, 1)})
	if !s.w.C[0].Fooled || !s.w.C[1].Fooled || s.w.C[2].Fooled {
		t.Errorf("when they met: %s", tell(s.w))
	}
}

// TestWhoMeets: books that parted at each place, and clients that go by each of their heads: they find it where both heads are behind the parting, whoever meets whom, and nowhere else.
func TestWhoMeets(t *testing.T) {
	for at := range api.MaxLeaves + 1 {
		mine, other := many(api.MaxLeaves), parted(api.MaxLeaves, at)
		for m := range api.MaxLeaves + 1 {
			for n := range api.MaxLeaves + 1 {
				// Every book has been longer than what was shown, or just as long.
				w := worldOf(mine, other, head(t, first(mine, m)), head(t, first(other, n)))
				if (m+n)%2 == 0 {
					w.B = [2]api.Book{first(mine, m), first(other, n)}
				}
				want := m > at && n > at
				for _, x := range []api.Happening{meets(0, 1), meets(1, 0)} {
					next, e := world.Do(w, x)
					if e != api.OK || next.C[0].Fooled != want || next.C[1].Fooled != want || next.C[2].Fooled {
						t.Fatalf("%d of one and %d of another that parted at %d, %+v: %v %d", m, n, at, x, next.C, e)
					}
				}
			}
		}
	}
}

// TestShortStories: all scripts of a few happenings, from a world of nothing and from some that are under way.
func TestShortStories(t *testing.T) {
	letters := []api.Happening{puts(0, 1, "a"), puts(1, 1, "a"), puts(1, 1, "b"), forks(), shown(0, 0), shown(0, 1), shown(1, 1), meets(0, 1)}
	n := &counts{}
	for _, start := range [][]api.Happening{
		nil,
		{puts(0, 1, "a"), puts(0, 2, "b"), forks(), shown(0, 0), shown(1, 1)},
		{puts(0, 1, "a"), forks(), puts(0, 1, "a"), puts(1, 1, "b"), shown(0, 0), shown(1, 1)},
		{puts(0, 1, "c"), puts(0, 1, "b"), puts(1, 1, "a"), shown(0, 1), puts(1, 1, "b"), shown(1, 0)},
	} {
		s := begin()
		s.n = n
		s.run(t, start).walk(t, letters, 4, func(tale) {})
	}
	if n.followed < 1000 || n.caught < 1000 || n.agreed < 500 || n.found < 500 {
		t.Errorf("too little was tried: %+v", *n)
	}
}

// TestOneBook: where the second book only ever is what the first one was, nobody is Fooled, and all heads are of the first one.
func TestOneBook(t *testing.T) {
	letters := []api.Happening{puts(0, 1, "a"), puts(0, 1, "b"), forks(), shown(0, 0), shown(0, 1), shown(1, 1), meets(0, 1)}
	s := begin()
	s.walk(t, letters, 5, func(s tale) {
		if s.isFooled() {
			t.Fatalf("a client of one book is Fooled: %s", tell(s.w))
		}
		if n := split(t, s.w); n != len(s.w.B[1].E) || !of(t, s.w, 0, 0) || !of(t, s.w, 1, 0) {
			t.Fatalf("one book is two, Split %d: %s", n, tell(s.w))
		}
	})
	if s.n.followed < 1000 || s.n.agreed < 1000 || s.n.caught+s.n.found > 0 {
		t.Errorf("too little or too much came about: %+v", *s.n)
	}
}

// numbers are as many pseudorandom ones as two for each happening of the longest script, always the same ones for one start.
func numbers(start int) []byte {
	l := make([]byte, 2*api.MaxScript)
	n := uint32(start)*2654435761 + 1
	for i := range l {
		n = n*1664525 + 1013904223
		l[i] = byte(n >> 24)
	}
	return l
}

// script is a list of happenings read from numbers: puts and shows more often than others.
func script(numbers []byte) []api.Happening {
	var l []api.Happening
	for i := 0; i+1 < len(numbers); i += 2 {
		a, b := int(numbers[i]), int(numbers[i+1])
		x := api.Happening{Kind: a % 8, Side: a / 8 % 2, Who: b % 3, Other: b / 3 % 3, E: api.Entry{Key: a / 16, Value: strconv.Itoa(b / 64)}}
		switch x.Kind {
		case 6:
			x.Kind = api.HPut
		case 7:
			x.Kind = api.HShow
		}
		l = append(l, x)
	}
	return l
}

// TestLongStories: scripts as long as may be, of all kinds.
func TestLongStories(t *testing.T) {
	n := &counts{}
	for round := range 400 {
		s := begin()
		s.n = n
		l := script(numbers(round))
		// Forks undo partings: in some of the scripts there is one alone.
		if round%2 == 0 {
			l = slices.DeleteFunc(l, func(x api.Happening) bool { return x.Kind == api.HFork })
			l = slices.Insert(l, len(l)/4, forks())
		}
		s = s.run(t, l)
		// What Run tells of the whole is what came of one after the other.
		w, _, e := world.Run(world.New(), l)
		if e != api.OK || !world.Same(w, s.w) {
			t.Fatalf("Run: %s %d, want %s", tell(w), e, tell(s.w))
		}
	}
	if n.followed < 1000 || n.caught < 1000 || n.agreed < 500 || n.found < 500 {
		t.Errorf("too little was tried: %+v", *n)
	}
}

// alone makes the script one of one book, in one way out of three: all of it comes to one side; or forks alone come to the second one; or, without a fork, each entry that one side has more is the other one's next.
func alone(l []api.Happening, way int) []api.Happening {
	var entries []api.Entry
	var lengths [2]int
	l = slices.DeleteFunc(slices.Clone(l), func(x api.Happening) bool { return x.Kind == api.HFork && way != 1 })
	for i := range l {
		x := &l[i]
		switch {
		case way == 0:
			x.Side = 1
		case x.Kind != api.HPut:
		case way == 1:
			x.Side = 0
		case lengths[x.Side] < len(entries):
			x.E = entries[lengths[x.Side]]
			lengths[x.Side]++
		case len(entries) < api.MaxLeaves:
			entries = append(entries, x.E)
			lengths[x.Side]++
		}
	}
	return l
}

// TestLongStoriesOfOneBook: nobody is Fooled, however one book came to both sides, and every head is of the longer one.
func TestLongStoriesOfOneBook(t *testing.T) {
	for way := range 3 {
		n := &counts{}
		for round := range 100 {
			s := begin()
			s.n = n
			for _, x := range alone(script(numbers(1000+round)), way) {
				s, _ = s.goesOn(t, x)
				longer := 0
				if len(s.w.B[1].E) > len(s.w.B[0].E) {
					longer = 1
				}
				if s.isFooled() || !of(t, s.w, 0, longer) || !of(t, s.w, 1, longer) || !of(t, s.w, 2, longer) {
					t.Fatalf("one book, %d: %+v: %s", way, x, tell(s.w))
				}
			}
		}
		if n.followed < 500 || n.agreed < 500 || n.caught+n.found > 0 {
			t.Errorf("too little or too much came about, %d: %+v", way, *n)
		}
	}
}

// TestForkedAway: a client whose book is gone is of no book any more, and is Fooled by whatever is shown to it that isn't what it went by.
func TestForkedAway(t *testing.T) {
	s := begin().run(t, []api.Happening{puts(0, 1, "a"), forks(), puts(1, 2, "b"), shown(0, 1), puts(0, 2, "c")})
	wantOf(t, s.w, 0, 1, true)
	s = s.run(t, []api.Happening{forks()})
	wantOf(t, s.w, 0, 0, false)
	wantOf(t, s.w, 0, 1, false)
	if n := split(t, s.w); n != 2 || s.isFooled() {
		t.Fatalf("forked: %d %s", n, tell(s.w))
	}
	if s = s.run(t, []api.Happening{shown(0, 1)}); !s.w.C[0].Fooled {
		t.Errorf("shown another book: %s", tell(s.w))
	}
	wantOf(t, s.w, 0, 1, false)
	// That it is Fooled changes nothing of whose head it is.
	s = s.run(t, []api.Happening{shown(1, 1), meets(0, 1)})
	wantOf(t, s.w, 1, 0, true)
	wantOf(t, s.w, 1, 1, true)
	if !s.w.C[1].Fooled || s.w.C[2].Fooled {
		t.Errorf("met one of another book: %s", tell(s.w))
	}
}

// FuzzStory: whatever the script is, what is promised holds.
func FuzzStory(f *testing.F) {
	f.Add([]byte{1, 0, 4, 1, 2, 0, 9, 64, 12, 2, 3, 3, 5, 5})
	f.Add([]byte{6, 255, 7, 250, 0, 0, 253, 253})
	f.Add(numbers(7))
	f.Fuzz(func(t *testing.T, numbers []byte) {
		begin().run(t, script(numbers[:min(len(numbers), 2*api.MaxScript)]))
	})
}
