package arena_test

import (
	"errors"
	"math"
	"math/rand"
	"slices"
	"testing"

	"plait/api"
	"plait/arena"
)

const (
	last = math.MaxUint32 // the greatest age
	most = api.MaxSlots
)

// sizes stand at the edges that the chapter names, and at some between.
var sizes = []int{1, 2, 3, 64, 65, 4097, most - 1, most}

// wrongSizes are those of which there is no arena.
var wrongSizes = []int{0, -1, -64, math.MinInt, math.MinInt32, most + 1, math.MaxInt32, math.MaxInt}

// far are places that no arena has.
var far = []int{-1, -2, math.MinInt, math.MinInt32, most, most + 1, math.MaxInt32, math.MaxUint32, 1 << 32, 1<<32 + 1, math.MaxInt}

func free(age uint32) arena.Place { return arena.Place{Age: age, Is: arena.Free} }
func live(age uint32) arena.Place { return arena.Place{Age: age, Is: arena.Live} }
func worn() arena.Place           { return arena.Place{Age: last, Is: arena.Worn} }

func handle(at int, age uint32) api.Handle { return api.Handle{At: uint32(at), Age: age} }

// checkErr fails unless err is the number want (0: nil), as errors.As finds it.
func checkErr(t *testing.T, what string, err error, want api.Errno) {
	t.Helper()
	if want == 0 {
		if err != nil {
			t.Fatalf("%s: error %v, want none", what, err)
		}
		return
	}
	var e api.Errno
	if !errors.As(err, &e) || e != want {
		t.Fatalf("%s: error %v, want %v", what, err, want)
	}
}

func made(t *testing.T, n int) *arena.Arena {
	t.Helper()
	a, err := arena.New(n)
	checkErr(t, "New", err, 0)
	if a == nil {
		t.Fatalf("New(%d): nil beside no error", n)
	}
	return a
}

func loaded(t *testing.T, n int, l ...arena.Place) *arena.Arena {
	t.Helper()
	a, err := arena.Load(n, l)
	checkErr(t, "Load", err, 0)
	if a == nil {
		t.Fatalf("Load(%d, %v): nil beside no error", n, l)
	}
	return a
}

func checkAdd(t *testing.T, a *arena.Arena, want api.Handle, wantErr api.Errno) {
	t.Helper()
	h, err := a.Add()
	checkErr(t, "Add", err, wantErr)
	if h != want {
		t.Fatalf("Add: %v, want %v", h, want)
	}
}

func checkFind(t *testing.T, a *arena.Arena, h api.Handle, want int, wantErr api.Errno) {
	t.Helper()
	at, err := a.Find(h)
	checkErr(t, "Find", err, wantErr)
	if at != want {
		t.Fatalf("Find(%v): %d, want %d", h, at, want)
	}
}

func checkHandle(t *testing.T, a *arena.Arena, at int, want api.Handle, wantErr api.Errno) {
	t.Helper()
	h, err := a.Handle(at)
	checkErr(t, "Handle", err, wantErr)
	if h != want {
		t.Fatalf("Handle(%d): %v, want %v", at, h, want)
	}
}

// checkHolds fails unless the arena of n has these first places, as every
// question tells it.
func checkHolds(t *testing.T, a *arena.Arena, n int, want ...arena.Place) {
	t.Helper()
	if got := a.Places(); !slices.Equal(got, want) {
		t.Fatalf("Places: %v, want %v", got, want)
	}
	var all []int
	full := len(want) == n
	for at, p := range want {
		full = full && p.Is != arena.Free
		if p.Is != arena.Live {
			checkHandle(t, a, at, api.Handle{}, api.ErrStale)
			checkFind(t, a, handle(at, p.Age), 0, api.ErrStale)
			continue
		}
		all = append(all, at)
		checkHandle(t, a, at, handle(at, p.Age), 0)
		checkFind(t, a, handle(at, p.Age), at, 0)
	}
	if got := a.All(); !slices.Equal(got, all) {
		t.Fatalf("All: %v, want %v", got, all)
	}
	if got := a.Len(); got != len(all) {
		t.Fatalf("Len: %d, want %d", got, len(all))
	}
	if got := a.Full(); got != full {
		t.Fatalf("Full: %v, want %v", got, full)
	}
}

// The states' numbers.

func TestStates(t *testing.T) {
	if arena.Free != 0 || arena.Live != 1 || arena.Worn != 2 {
		t.Fatalf("Free %d, Live %d, Worn %d, want 0, 1, 2", arena.Free, arena.Live, arena.Worn)
	}
}

// AR1: New.

func TestNew(t *testing.T) {
	for _, n := range sizes {
		a := made(t, n)
		checkHolds(t, a, n)
		checkHandle(t, a, 0, api.Handle{}, api.ErrStale)
		checkHandle(t, a, n-1, api.Handle{}, api.ErrStale)
		checkHandle(t, a, n, api.Handle{}, api.ErrRange)
		checkAdd(t, a, handle(0, 1), 0)
	}
}

func TestNewWrong(t *testing.T) {
	for _, n := range wrongSizes {
		a, err := arena.New(n)
		checkErr(t, "New", err, api.ErrArg)
		if a != nil {
			t.Fatalf("New(%d): %v beside an error", n, a)
		}
	}
}

// AR1: Load.

func TestLoad(t *testing.T) {
	cases := []struct {
		n int
		l []arena.Place
	}{
		{1, nil},
		{1, []arena.Place{}},
		{most, nil},
		{1, []arena.Place{free(1)}},
		{1, []arena.Place{free(last - 1)}},
		{1, []arena.Place{live(1)}},
		{1, []arena.Place{live(last)}},
		{1, []arena.Place{worn()}},
		{2, []arena.Place{free(0), live(1)}},
		{2, []arena.Place{free(0), worn()}},
		{3, []arena.Place{free(0), free(0), free(1)}},
		{3, []arena.Place{worn(), worn(), worn()}},
		{3, []arena.Place{live(1), live(2), live(last)}},
		{9, []arena.Place{live(1), free(0), worn(), free(7), live(last - 1), live(last), free(last - 1)}},
		{most, []arena.Place{live(1), free(0), worn(), free(7)}},
	}
	for _, c := range cases {
		checkHolds(t, loaded(t, c.n, c.l...), c.n, c.l...)
	}
}

// All of the most places there may be: Live, Worn, Free, or only the last one
// given.
func TestLoadMost(t *testing.T) {
	for _, p := range []arena.Place{live(1), live(last), worn(), free(3), free(0)} {
		l := slices.Repeat([]arena.Place{p}, most)
		if p.Age == 0 {
			l[most-1] = live(5)
		}
		a := loaded(t, most, l...)
		if !slices.Equal(a.Places(), l) {
			t.Fatalf("Places, of %d of %v: others", most, p)
		}
		lives := 0
		for _, q := range l {
			lives += int(q.Is) % 2
		}
		if all := a.All(); a.Len() != lives || len(all) != lives || lives > 0 && all[lives-1] != most-1 {
			t.Fatalf("%d of %v: Len %d, and %d in All, want %d", most, p, a.Len(), len(all), lives)
		}
		if a.Full() != (p.Is != arena.Free) {
			t.Fatalf("%d of %v: Full %v", most, p, a.Full())
		}
		if p.Is == arena.Free {
			checkAdd(t, a, handle(0, p.Age+1), 0)
		} else {
			checkAdd(t, a, api.Handle{}, api.ErrFull)
		}
	}
}

func TestLoadWrong(t *testing.T) {
	cases := [][]arena.Place{
		{free(0)},
		{live(1), free(0)},
		{worn(), free(0)},
		{live(0)},
		{live(0), live(1)},
		{live(1), live(0)},
		{free(last)},
		{free(last), live(1)},
		{live(1), free(last)},
		{{Age: 0, Is: arena.Worn}},
		{{Age: 1, Is: arena.Worn}},
		{{Age: last - 1, Is: arena.Worn}, live(1)},
		{live(1), {Age: last - 1, Is: arena.Worn}},
		{{Age: 1, Is: arena.Worn + 1}},
		{{Age: last, Is: arena.Worn + 1}},
		{{Age: 0, Is: arena.Worn + 1}, live(1)},
		{{Age: 1, Is: -1}},
		{live(1), {Age: 1, Is: -1}, live(1)},
		{{Age: 1, Is: math.MaxInt}},
		{{Age: 1, Is: math.MinInt}},
		{live(1), live(1), live(1), live(1)},
		{live(1), live(1), live(1), free(0)},
		{worn(), worn(), worn(), worn(), worn()},
		slices.Repeat([]arena.Place{live(1)}, most+1),
	}
	for _, l := range cases {
		given := slices.Clone(l)
		a, err := arena.Load(3, l)
		checkErr(t, "Load", err, api.ErrArg)
		if a != nil {
			t.Fatalf("Load(3, %v): %v beside an error", l, a)
		}
		if !slices.Equal(l, given) {
			t.Fatalf("Load changed %v to %v", given, l)
		}
	}
	for _, n := range wrongSizes {
		for _, l := range [][]arena.Place{nil, {live(1)}, {free(0)}} {
			a, err := arena.Load(n, l)
			checkErr(t, "Load", err, api.ErrArg)
			if a != nil {
				t.Fatalf("Load(%d, %v): %v beside an error", n, l, a)
			}
		}
	}
	_, err := arena.Load(most, slices.Repeat([]arena.Place{live(1)}, most+1))
	checkErr(t, "Load of one more than the most", err, api.ErrArg)
}

// What is loaded is neither changed nor kept; nor is the room behind it.
func TestLoadAlone(t *testing.T) {
	room := []arena.Place{live(1), free(2), live(3), live(4), live(5)}
	given := slices.Clone(room)
	a := loaded(t, 5, room[:3]...)
	checkAdd(t, a, handle(1, 3), 0)
	checkAdd(t, a, handle(3, 1), 0)
	checkErr(t, "Drop", a.Drop(handle(0, 1)), 0)
	if !slices.Equal(room, given) {
		t.Fatalf("what was loaded is %v, was %v", room, given)
	}
	for i := range room {
		room[i] = worn()
	}
	checkHolds(t, a, 5, free(1), live(3), live(3), live(1))
}

// AR1: Add.

func TestAddExample(t *testing.T) {
	a := made(t, 3)
	checkAdd(t, a, handle(0, 1), 0)
	checkAdd(t, a, handle(1, 1), 0)
	checkErr(t, "Drop", a.Drop(handle(0, 1)), 0)
	checkHolds(t, a, 3, free(1), live(1))
	checkAdd(t, a, handle(0, 2), 0)
	checkHolds(t, a, 3, live(2), live(1))
	checkAdd(t, a, handle(2, 1), 0)
	checkHolds(t, a, 3, live(2), live(1), live(1))
	checkAdd(t, a, api.Handle{}, api.ErrFull)
	checkHolds(t, a, 3, live(2), live(1), live(1))
}

func TestAddAll(t *testing.T) {
	for _, n := range sizes {
		a := made(t, n)
		for at := range n {
			if a.Full() {
				t.Fatalf("%d of %d places given: Full", at, n)
			}
			checkAdd(t, a, handle(at, 1), 0)
		}
		checkAdd(t, a, api.Handle{}, api.ErrFull)
		if a.Len() != n || !a.Full() {
			t.Fatalf("all %d places given: Len %d, Full %v", n, a.Len(), a.Full())
		}
		for _, at := range []int{n - 1, n / 2, 0} {
			h, err := a.Handle(at)
			checkErr(t, "Handle", err, 0)
			checkErr(t, "Drop", a.Drop(h), 0)
			if a.Full() || a.Len() != n-1 {
				t.Fatalf("one of %d places free: Len %d, Full %v", n, a.Len(), a.Full())
			}
			checkAdd(t, a, handle(at, h.Age+1), 0)
			checkAdd(t, a, api.Handle{}, api.ErrFull)
		}
	}
}

// The lowest Free place is given: one below those that were ever given, too.
func TestAddLowest(t *testing.T) {
	a := loaded(t, 7, live(1), free(0), worn(), free(7), live(3))
	checkAdd(t, a, handle(1, 1), 0)
	checkAdd(t, a, handle(3, 8), 0)
	checkAdd(t, a, handle(5, 1), 0)
	checkErr(t, "Drop", a.Drop(handle(4, 3)), 0)
	checkAdd(t, a, handle(4, 4), 0)
	checkAdd(t, a, handle(6, 1), 0)
	checkAdd(t, a, api.Handle{}, api.ErrFull)
	checkHolds(t, a, 7, live(1), live(1), worn(), live(8), live(4), live(1), live(1))
}

// AR1: Drop.

func TestDrop(t *testing.T) {
	a := loaded(t, 4, live(1), live(last), live(last-1))
	checkErr(t, "Drop", a.Drop(handle(0, 1)), 0)
	checkHolds(t, a, 4, free(1), live(last), live(last-1))
	checkErr(t, "Drop", a.Drop(handle(1, last)), 0)
	checkHolds(t, a, 4, free(1), worn(), live(last-1))
	checkErr(t, "Drop", a.Drop(handle(2, last-1)), 0)
	checkHolds(t, a, 4, free(1), worn(), free(last-1))
	checkAdd(t, a, handle(0, 2), 0)
	checkAdd(t, a, handle(2, last), 0)
	checkAdd(t, a, handle(3, 1), 0)
	checkAdd(t, a, api.Handle{}, api.ErrFull)
	checkErr(t, "Drop", a.Drop(handle(2, last)), 0)
	checkAdd(t, a, api.Handle{}, api.ErrFull)
	checkHolds(t, a, 4, live(2), worn(), worn(), live(1))
}

func TestDropWrong(t *testing.T) {
	a := loaded(t, 5, live(2), free(3), worn(), live(last))
	for _, h := range []api.Handle{
		handle(0, 0), handle(0, 1), handle(0, 3), handle(0, last),
		handle(1, 3), handle(1, 4), handle(1, 0),
		handle(2, last), handle(2, 0),
		handle(3, last-1), handle(3, 0),
		handle(4, 0), handle(4, 1),
	} {
		checkErr(t, "Drop", a.Drop(h), api.ErrStale)
		checkHolds(t, a, 5, live(2), free(3), worn(), live(last))
	}
	for _, h := range []api.Handle{handle(5, 0), handle(5, 2), handle(last, 2), handle(last, 0)} {
		checkErr(t, "Drop", a.Drop(h), api.ErrRange)
		checkHolds(t, a, 5, live(2), free(3), worn(), live(last))
	}
	checkErr(t, "Drop", a.Drop(handle(0, 2)), 0)
	for range 2 {
		checkErr(t, "Drop again", a.Drop(handle(0, 2)), api.ErrStale)
		checkHolds(t, a, 5, free(2), free(3), worn(), live(last))
	}
	checkErr(t, "Drop", a.Drop(handle(3, last)), 0)
	for range 2 {
		checkErr(t, "Drop again", a.Drop(handle(3, last)), api.ErrStale)
		checkHolds(t, a, 5, free(2), free(3), worn(), worn())
	}
}

// A place that is worn out at last, and an arena of nothing else.
func TestWornOut(t *testing.T) {
	a := loaded(t, 2, free(last-1), free(last-2))
	for _, h := range []api.Handle{handle(0, last), handle(1, last-1), handle(1, last)} {
		checkAdd(t, a, h, 0)
		checkErr(t, "Drop", a.Drop(h), 0)
		checkFind(t, a, h, 0, api.ErrStale)
	}
	checkHolds(t, a, 2, worn(), worn())
	for range 2 {
		checkAdd(t, a, api.Handle{}, api.ErrFull)
		checkHolds(t, a, 2, worn(), worn())
	}
}

// AR2: Find.

func TestFindWrong(t *testing.T) {
	a := loaded(t, 6, live(2), free(3), worn(), live(last), free(0), live(1))
	checkFind(t, a, handle(0, 2), 0, 0)
	checkFind(t, a, handle(3, last), 3, 0)
	checkFind(t, a, handle(5, 1), 5, 0)
	for at := range 6 {
		for _, age := range []uint32{0, 1, 2, 3, 4, last - 1, last} {
			if at == 0 && age == 2 || at == 3 && age == last || at == 5 && age == 1 {
				continue
			}
			checkFind(t, a, handle(at, age), 0, api.ErrStale)
		}
	}
	for _, at := range []int{6, 7, most, math.MaxInt32, math.MaxInt32 + 1, math.MaxUint32} {
		for _, age := range []uint32{0, 1, last} {
			checkFind(t, a, handle(at, age), 0, api.ErrRange)
		}
	}
	checkHolds(t, a, 6, live(2), free(3), worn(), live(last), free(0), live(1))
}

// Places that were never given are there nevertheless: stale, not out of range.
func TestFindNeverGiven(t *testing.T) {
	for _, n := range sizes {
		a := made(t, n)
		for _, at := range []int{0, n / 2, n - 1} {
			checkFind(t, a, handle(at, 0), 0, api.ErrStale)
			checkFind(t, a, handle(at, 1), 0, api.ErrStale)
			checkHandle(t, a, at, api.Handle{}, api.ErrStale)
		}
		checkFind(t, a, handle(n, 0), 0, api.ErrRange)
		checkFind(t, a, handle(n, 1), 0, api.ErrRange)
		checkErr(t, "Drop", a.Drop(handle(n-1, 0)), api.ErrStale)
		checkErr(t, "Drop", a.Drop(handle(n, 0)), api.ErrRange)
		checkHolds(t, a, n)
	}
}

// AR2: Handle.

func TestHandleWrong(t *testing.T) {
	a := loaded(t, 5, live(2), free(3), worn(), live(last))
	for _, at := range append([]int{5, 6}, far...) {
		checkHandle(t, a, at, api.Handle{}, api.ErrRange)
	}
	for _, at := range []int{1, 2, 4} {
		checkHandle(t, a, at, api.Handle{}, api.ErrStale)
	}
	checkHandle(t, a, 0, handle(0, 2), 0)
	checkHandle(t, a, 3, handle(3, last), 0)
	checkHolds(t, a, 5, live(2), free(3), worn(), live(last))
}

func TestHandleFar(t *testing.T) {
	a := loaded(t, most, slices.Repeat([]arena.Place{live(1)}, most)...)
	for _, at := range far {
		checkHandle(t, a, at, api.Handle{}, api.ErrRange)
	}
	checkHandle(t, a, most-1, handle(most-1, 1), 0)
	checkFind(t, a, handle(most-1, 1), most-1, 0)
	checkFind(t, a, handle(most, 1), 0, api.ErrRange)
}

// AR2: All and Places are new memory, spare room too.

func TestAnswersAlone(t *testing.T) {
	a := made(t, 9)
	for range 5 {
		a.Add()
	}
	checkErr(t, "Drop", a.Drop(handle(1, 1)), 0)
	all, places := a.All(), a.Places()
	keptAll, keptPlaces := a.All(), a.Places()
	all = all[:cap(all)]
	for i := range all {
		all[i] = -5
	}
	places = places[:cap(places)]
	for i := range places {
		places[i] = worn()
	}
	want := []arena.Place{live(1), free(1), live(1), live(1), live(1)}
	checkHolds(t, a, 9, want...)
	for range 3 {
		a.Add()
	}
	checkErr(t, "Drop", a.Drop(handle(0, 1)), 0)
	if !slices.Equal(keptPlaces, want) {
		t.Fatalf("Places, later on: %v, want %v", keptPlaces, want)
	}
	if w := []int{0, 2, 3, 4}; !slices.Equal(keptAll, w) {
		t.Fatalf("All, later on: %v, want %v", keptAll, w)
	}
	for i := range places {
		if places[i] != worn() {
			t.Fatalf("an answer of Places was changed at %d: %v", i, places[i])
		}
	}
	checkHolds(t, a, 9, free(1), live(2), live(1), live(1), live(1), live(1), live(1))
}

// AR2: a nil Arena.

func TestNil(t *testing.T) {
	var a *arena.Arena
	checkAdd(t, a, api.Handle{}, api.ErrArg)
	for _, h := range []api.Handle{{}, handle(0, 1), handle(most, 1), handle(last, last)} {
		checkFind(t, a, h, 0, api.ErrArg)
		checkErr(t, "Drop of nil", a.Drop(h), api.ErrArg)
	}
	for _, at := range append([]int{0, 1}, far...) {
		checkHandle(t, a, at, api.Handle{}, api.ErrArg)
	}
	if got := a.Len(); got != 0 {
		t.Fatalf("Len of nil: %d", got)
	}
	if !a.Full() {
		t.Fatal("Full of nil: false")
	}
	if got := a.All(); len(got) != 0 {
		t.Fatalf("All of nil: %v", got)
	}
	if got := a.Places(); len(got) != 0 {
		t.Fatalf("Places of nil: %v", got)
	}
}

// list is an arena as a plain list, gone over anew each time.
type list []arena.Place

func (l list) add() (api.Handle, api.Errno) {
	at := slices.IndexFunc(l, func(p arena.Place) bool { return p.Is == arena.Free })
	if at < 0 {
		return api.Handle{}, api.ErrFull
	}
	l[at] = live(l[at].Age + 1)
	return handle(at, l[at].Age), 0
}

func (l list) find(h api.Handle) api.Errno {
	switch {
	case int(h.At) >= len(l):
		return api.ErrRange
	case l[h.At].Is != arena.Live || l[h.At].Age != h.Age:
		return api.ErrStale
	}
	return 0
}

func (l list) drop(h api.Handle) api.Errno {
	if e := l.find(h); e != 0 {
		return e
	}
	l[h.At].Is = arena.Free
	if h.Age == last {
		l[h.At].Is = arena.Worn
	}
	return 0
}

// first are the places up to the last one that was ever given.
func (l list) first() []arena.Place {
	n := len(l)
	for n > 0 && l[n-1].Age == 0 {
		n--
	}
	return l[:n]
}

// AR3: an arena does what a plain list does; so does one that is loaded anew
// from Places all the while. No handle comes twice, and none comes back.
func TestAsList(t *testing.T) {
	for _, n := range []int{1, 2, 5, 64, 65, 200} {
		r := rand.New(rand.NewSource(int64(n)))
		l := make(list, n)
		for at := range n / 2 {
			l[at] = []arena.Place{free(last - 1 - uint32(at%3)), free(0), live(last), live(last - 1), worn(), free(9)}[r.Intn(6)]
		}
		a, other := loaded(t, n, l.first()...), loaded(t, n, l.first()...)
		given, gone := map[api.Handle]int{}, []api.Handle{}
		for step := range 2000 {
			// Phases in which nearly all is given, or nearly nothing is.
			if r.Intn(4) > step/300%2*2 {
				h, want := l.add()
				checkAdd(t, a, h, want)
				checkAdd(t, other, h, want)
				if given[h]++; want == 0 && given[h] > 1 {
					t.Fatalf("%v was given twice", h)
				}
			} else {
				h := handle(r.Intn(n+1), uint32(r.Intn(4)))
				if held, err := a.Handle(r.Intn(n)); err == nil && r.Intn(4) > 0 {
					h = held
				}
				want := l.drop(h)
				checkErr(t, "Drop", a.Drop(h), want)
				checkErr(t, "Drop", other.Drop(h), want)
				if want == 0 {
					gone = append(gone, h)
				}
			}
			other = loaded(t, n, other.Places()...)
			if step%16 == 0 {
				checkHolds(t, a, n, l.first()...)
				checkHolds(t, other, n, l.first()...)
				for _, h := range gone {
					checkFind(t, a, h, 0, api.ErrStale)
					checkFind(t, other, h, 0, api.ErrStale)
				}
			}
		}
	}
}

// Of a great arena each call needs few steps: a walk over all places would take
// some hours.
func TestAtOnce(t *testing.T) {
	a := loaded(t, most, slices.Repeat([]arena.Place{live(1)}, most)...)
	for i := range 1 << 19 {
		h := handle(most-1, uint32(i)+1)
		checkErr(t, "Drop", a.Drop(h), 0)
		checkAdd(t, a, handle(most-1, uint32(i)+2), 0)
		if a.Len() != most || !a.Full() {
			t.Fatalf("Len %d, Full %v", a.Len(), a.Full())
		}
	}
}
