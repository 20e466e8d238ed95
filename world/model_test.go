package world

import (
	"maps"
	"slices"
	"strconv"
	"testing"

	"greatseal/api"
	"greatseal/show"
)

// model is a world told otherwise: it knows of each client which entries its head is of, and asks no seal but where a meeting goes by them.
type model struct {
	books   [2][]api.Entry
	readers [api.MaxClients]reader
}

// reader is a client: any says whether it was shown a head at all.
type reader struct {
	seen        []api.Entry
	any, fooled bool
}

// begins says whether the list goes on where the old one was.
func begins(l, old []api.Entry) bool {
	return len(old) <= len(l) && slices.Equal(l[:len(old)], old)
}

// values is what the entries come to.
func values(l []api.Entry) map[int]string {
	m := map[int]string{}
	for _, x := range l {
		m[x.Key] = x.Value
	}
	return m
}

// do is the model after the happening; beside an error it is as it was.
func (m model) do(t *testing.T, x api.Happening) (model, api.Errno) {
	switch {
	case x.Kind < 1 || x.Kind > 5:
		return m, api.ErrForm
	case x.Side < 0 || x.Side > 1 || x.Who < 0 || x.Who > 2 || x.Other < 0 || x.Other > 2:
		return m, api.ErrWho
	}
	switch x.Kind {
	case api.HPut:
		return m.put(x)
	case api.HFork:
		m.books[1] = m.books[0]
	case api.HShow:
		return m.show(x)
	case api.HMeet:
		if !m.agree(t, m.readers[x.Who].seen, m.readers[x.Other].seen) {
			m.readers[x.Who].fooled, m.readers[x.Other].fooled = true, true
		}
	case api.HAsk:
		return m, m.ask(x)
	}
	return m, api.OK
}

func (m model) put(x api.Happening) (model, api.Errno) {
	switch l := m.books[x.Side]; {
	case len(l) == 24:
		return m, api.ErrMany
	case x.E.Key < 0 || x.E.Key > 15:
		return m, api.ErrWho
	case len(x.E.Value) > 12:
		return m, api.ErrMany
	default:
		m.books[x.Side] = append(slices.Clone(l), x.E)
		return m, api.OK
	}
}

func (m model) show(x api.Happening) (model, api.Errno) {
	r, l := &m.readers[x.Who], m.books[x.Side]
	switch {
	case len(l) < len(r.seen):
		return m, api.ErrLate
	case begins(l, r.seen):
		r.seen, r.any = l, true
	default:
		r.fooled = true
	}
	return m, api.OK
}

// agree says whether one of the lists goes on where the other was, and a book's seals show it.
func (m model) agree(t *testing.T, a, b []api.Entry) bool {
	if len(b) < len(a) {
		a, b = b, a
	}
	if len(a) == 0 || slices.Equal(a, b) {
		return true
	}
	if !begins(b, a) {
		return false
	}
	for _, l := range m.books {
		if len(l) >= len(b) && slices.Equal(seals(t, l[:len(b)], len(a)), seals(t, b, len(a))) {
			return true
		}
	}
	return false
}

func seals(t *testing.T, l []api.Entry, m int) []string {
	t.Helper()
	s, e := show.Growth(api.Book{E: l}, m)
	if e != api.OK {
		t.Fatalf("no Growth from %d of %v: %d", m, l, e)
	}
	return s
}

func (m model) ask(x api.Happening) api.Errno {
	switch r := m.readers[x.Who]; {
	case x.E.Key < 0 || x.E.Key > 15:
		return api.ErrWho
	case !r.any || !maps.Equal(values(r.seen), values(m.books[x.Side])):
		return api.ErrFalse
	}
	return api.OK
}

// world is what the model tells of.
func (m model) world(t *testing.T) api.World {
	t.Helper()
	w := worldOf(api.Book{E: m.books[0]}, api.Book{E: m.books[1]})
	for i, r := range m.readers {
		if r.any {
			w.C[i].H = head(t, api.Book{E: r.seen})
		}
		w.C[i].Fooled = r.fooled
	}
	return w
}

// step does one happening to both, and asks that they are alike.
func step(t *testing.T, w api.World, m model, x api.Happening) (api.World, model, bool) {
	t.Helper()
	next, e := Do(w, x)
	after, want := m.do(t, x)
	if e != want {
		t.Fatalf("%+v of %+v: %d, want %d", x, m, e, want)
	}
	if e != api.OK {
		if !isNothing(next) {
			t.Fatalf("%+v of %+v: %v beside %d", x, m, next, e)
		}
		return w, m, false
	}
	if !Same(next, after.world(t)) || Check(next) != api.OK {
		t.Fatalf("%+v of %+v: %+v, want %+v", x, m, next, after)
	}
	return next, after, true
}

// TestShortScripts: all scripts of a few happenings, from a world of nothing and from some that are under way.
func TestShortScripts(t *testing.T) {
	letters := []api.Happening{puts(0, 1, "a"), puts(1, 1, "a"), puts(1, 1, "b"), forks(), shown(0, 0), shown(0, 1), shown(1, 1), meets(0, 1), asks(0, 1, 1)}
	var walk func(w api.World, m model, depth int)
	walk = func(w api.World, m model, depth int) {
		for _, x := range letters {
			if next, after, changed := step(t, w, m, x); changed && depth > 1 {
				walk(next, after, depth-1)
			}
		}
	}
	for _, start := range [][]api.Happening{
		nil,
		{puts(0, 1, "a"), puts(0, 2, "b"), forks(), shown(0, 0), shown(1, 1)},
		{puts(0, 1, "c"), puts(0, 1, "b"), puts(1, 1, "a"), shown(0, 1), puts(1, 1, "b"), shown(1, 1)},
		{puts(0, 1, "a"), forks(), puts(0, 1, "a"), puts(1, 1, "b"), shown(0, 0), shown(1, 1)},
	} {
		w, m := New(), model{}
		for _, x := range start {
			w, m, _ = step(t, w, m, x)
		}
		walk(w, m, 4)
	}
}

// script is a list of happenings read from numbers: puts and shows more often than others, wrong ones now and then.
func script(numbers []byte) []api.Happening {
	var l []api.Happening
	for i := 0; i+1 < len(numbers); i += 2 {
		a, b := int(numbers[i]), int(numbers[i+1])
		x := api.Happening{Kind: a % 8, Side: a / 8 % 2, Who: b % 3, Other: b / 3 % 3, E: api.Entry{Key: a / 16, Value: strconv.Itoa(b / 64)}}
		switch x.Kind {
		case 6:
			x.Kind = api.HPut
		case 7:
			x.Kind = api.HShow
		}
		switch b {
		case 250:
			x.Who = 3
		case 251:
			x.Other = -1
		case 252:
			x.Side = 2
		case 253:
			x.E.Key = -1
		case 254:
			x.E.Key = api.Keys
		case 255:
			x.E.Value = long(api.MaxValue + 1)
		}
		l = append(l, x)
	}
	return l
}

// runs asks that a script does what its happenings do one by one, and that the model says the same.
func runs(t *testing.T, l []api.Happening) model {
	t.Helper()
	w, m := New(), model{}
	said := make([]api.Errno, len(l))
	for i, x := range l {
		_, said[i] = Do(w, x)
		w, m, _ = step(t, w, m, x)
	}
	got, heard, e := Run(New(), l)
	if e != api.OK || !Same(got, w) || !slices.Equal(heard, said) {
		t.Fatalf("Run %+v: %v %v %d, want %v %v", l, got, heard, e, w, said)
	}
	return m
}

// TestLongScripts: scripts as long as may be, of all kinds; in some books are full, and in those of one book nobody is Fooled.
func TestLongScripts(t *testing.T) {
	n := uint32(1)
	fooled, full := 0, 0
	for round := range 400 {
		numbers := make([]byte, 2*api.MaxScript)
		for i := range numbers {
			n = n*1664525 + 1013904223
			numbers[i] = byte(n >> 24)
			if round%4 == 0 && i%4 == 0 {
				numbers[i] = numbers[i]&^7 | 6 // another put
			}
			if round%4 == 1 && i%2 == 0 {
				numbers[i] &^= 8 // the first book alone
			}
		}
		m := runs(t, script(numbers))
		for _, r := range m.readers {
			if r.fooled {
				fooled++
			}
			if r.fooled && round%4 == 1 {
				t.Errorf("a client of one book is Fooled: %+v", m)
			}
		}
		for _, l := range m.books {
			if len(l) == api.MaxLeaves {
				full++
			}
		}
	}
	if fooled < 100 || full < 20 {
		t.Errorf("too little was tried: %d clients fooled, %d books full", fooled, full)
	}
}

// FuzzRun: whatever the script is, it does what the model says.
func FuzzRun(f *testing.F) {
	f.Add([]byte{1, 0, 4, 1, 2, 0, 9, 64, 12, 2, 3, 3, 5, 5})
	f.Add([]byte{6, 255, 7, 250, 0, 0, 253, 253})
	f.Fuzz(func(t *testing.T, numbers []byte) {
		runs(t, script(numbers[:min(len(numbers), 2*api.MaxScript)]))
	})
}
