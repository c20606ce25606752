package web_test

import (
	"errors"
	"fmt"
	"math"
	"math/rand"
	"slices"
	"testing"

	"plait/api"
	"plait/web"
)

// The most items and ties that there may be.
const (
	mostItems = 1 << 22
	mostTies  = 1 << 20
)

// far are items, and ties, that no Web has.
var far = []int{-1, -2, math.MinInt, math.MinInt32, mostItems, mostItems + 1, 1 << 23, math.MaxInt32, math.MaxInt32 + 1, math.MaxUint32, 1 << 32, math.MaxInt - 1, math.MaxInt}

// checkErr fails unless err is the number want (0: nil), as errors.As finds it.
func checkErr(t *testing.T, what string, err error, want api.Errno) {
	t.Helper()
	if want == 0 {
		if err != nil {
			t.Fatalf("%s: error %v, want none", what, err)
		}
		return
	}
	var e api.Errno
	if !errors.As(err, &e) || e != want {
		t.Fatalf("%s: error %v, want %v", what, err, want)
	}
}

// check fails unless a call answered just that.
func check[T comparable](t *testing.T, what string, got T, err error, want T, wantErr api.Errno) {
	t.Helper()
	checkErr(t, what, err, wantErr)
	if got != want {
		t.Fatalf("%s: %v, want %v", what, got, want)
	}
}

func made(t *testing.T, items, ties int) *web.Web {
	t.Helper()
	w, err := web.New(items, ties)
	checkErr(t, "New", err, 0)
	if w == nil {
		t.Fatalf("New(%d, %d): nil beside no error", items, ties)
	}
	return w
}

// tie is a tie as the plain lists have it.
type tie struct {
	on   bool
	a, b int
	key  int64
}

// plain is faces and ties as plain lists, gone over anew each time.
type plain struct {
	items int
	faces [][]int
	ties  []tie
}

func newPlain(items, ties int) *plain {
	p := &plain{items: items, ties: make([]tie, ties)}
	for x := range items {
		p.faces = append(p.faces, []int{x})
	}
	return p
}

// is tells whether there are such items.
func (p *plain) is(items ...int) bool {
	return !slices.ContainsFunc(items, func(x int) bool { return x < 0 || x >= p.items })
}

// face is the number of an item's face.
func (p *plain) face(x int) int {
	return slices.IndexFunc(p.faces, func(f []int) bool { return slices.Contains(f, x) })
}

// walk is an item's face from the item on.
func (p *plain) walk(x int) []int {
	f := p.faces[p.face(x)]
	k := slices.Index(f, x)
	return slices.Concat(f[k:], f[:k])
}

// take is walk; it is no face any more.
func (p *plain) take(x int) []int {
	list, i := p.walk(x), p.face(x)
	p.faces = slices.Delete(p.faces, i, i+1)
	return list
}

// road is the ties from one face to another one, in order; whether there is any
// road.
func (p *plain) road(from, to int, came int) ([]int, bool) {
	if from == to {
		return nil, true
	}
	for e, t := range p.ties {
		if !t.on || e == came {
			continue
		}
		next := -1
		switch from {
		case p.face(t.a):
			next = p.face(t.b)
		case p.face(t.b):
			next = p.face(t.a)
		default:
			continue
		}
		if rest, ok := p.road(next, to, e); ok {
			return append([]int{e}, rest...), true
		}
	}
	return nil, false
}

func (p *plain) linked(a, b int) bool {
	_, ok := p.road(p.face(a), p.face(b), -1)
	return ok
}

func (p *plain) weakest(a, b int) (int, api.Errno) {
	road, ok := p.road(p.face(a), p.face(b), -1)
	if !ok {
		return 0, api.ErrApart
	}
	best := -1
	for _, e := range road {
		if best < 0 || p.ties[e].key < p.ties[best].key {
			best = e
		}
	}
	return best, 0
}

func (p *plain) split(a, b int) api.Errno {
	switch {
	case !p.is(a, b):
		return api.ErrRange
	case a == b:
		return api.ErrSame
	case p.face(a) != p.face(b):
		return api.ErrApart
	}
	list := p.take(a)
	k := slices.Index(list, b)
	p.faces = append(p.faces, slices.Clone(list[:k]), slices.Clone(list[k:]))
	return 0
}

func (p *plain) merge(a, b int) api.Errno {
	switch {
	case !p.is(a, b):
		return api.ErrRange
	case p.linked(a, b):
		return api.ErrSame
	}
	p.faces = append(p.faces, slices.Concat(p.take(a), p.take(b)))
	return 0
}

func (p *plain) apart(x int) api.Errno {
	switch {
	case !p.is(x):
		return api.ErrRange
	case len(p.walk(x)) == 1:
		return api.ErrSame
	}
	p.faces = append(p.faces, p.take(x)[1:], []int{x})
	return 0
}

func (p *plain) tie(e, a, b int, key int64) api.Errno {
	switch {
	case e < 0 || e >= len(p.ties) || !p.is(a, b):
		return api.ErrRange
	case key == math.MaxInt64:
		return api.ErrArg
	case p.ties[e].on || p.linked(a, b):
		return api.ErrSame
	}
	p.ties[e] = tie{on: true, a: a, b: b, key: key}
	return 0
}

func (p *plain) untie(e int) api.Errno {
	switch {
	case e < 0 || e >= len(p.ties):
		return api.ErrRange
	case !p.ties[e].on:
		return api.ErrApart
	}
	p.ties[e] = tie{}
	return 0
}

// checkItem fails unless all that is asked of one item is as in the lists.
func (p *plain) checkItem(t *testing.T, w *web.Web, x int) {
	t.Helper()
	want := p.walk(x)
	list, err := w.Walk(x)
	checkErr(t, "Walk", err, 0)
	if !slices.Equal(list, want) {
		t.Fatalf("Walk(%d): %v, want %v", x, list, want)
	}
	size, err := w.Len(x)
	check(t, "Len", size, err, len(want), 0)
}

// checkTwo fails unless all that is asked of two items is as in the lists.
func (p *plain) checkTwo(t *testing.T, w *web.Web, a, b int) {
	t.Helper()
	same, err := w.Same(a, b)
	check(t, "Same", same, err, p.face(a) == p.face(b), 0)
	linked, err := w.Linked(a, b)
	check(t, fmt.Sprintf("Linked(%d, %d)", a, b), linked, err, p.linked(a, b), 0)
	want, wantErr := p.weakest(a, b)
	weakest, err := w.Weakest(a, b)
	check(t, fmt.Sprintf("Weakest(%d, %d)", a, b), weakest, err, want, wantErr)
}

// checkAll fails unless all is as the plain lists tell it.
func (p *plain) checkAll(t *testing.T, w *web.Web) {
	t.Helper()
	for a := range p.items {
		p.checkItem(t, w, a)
		for b := range p.items {
			p.checkTwo(t, w, a, b)
		}
	}
	for e, is := range p.ties {
		check(t, "Tied", w.Tied(e), nil, is.on, 0)
	}
}

// both is a Web, and the plain lists to which the same is done.
type both struct {
	t *testing.T
	w *web.Web
	p *plain
}

func newBoth(t *testing.T, items, ties int) both {
	t.Helper()
	return both{t, made(t, items, ties), newPlain(items, ties)}
}

func (b both) merge(x, y int) {
	b.t.Helper()
	checkErr(b.t, fmt.Sprintf("Merge(%d, %d)", x, y), b.w.Merge(x, y), b.p.merge(x, y))
}

func (b both) split(x, y int) {
	b.t.Helper()
	checkErr(b.t, fmt.Sprintf("Split(%d, %d)", x, y), b.w.Split(x, y), b.p.split(x, y))
}

func (b both) apart(x int) {
	b.t.Helper()
	checkErr(b.t, fmt.Sprintf("Apart(%d)", x), b.w.Apart(x), b.p.apart(x))
}

func (b both) tie(e, x, y int, key int64) {
	b.t.Helper()
	checkErr(b.t, fmt.Sprintf("Tie(%d, %d, %d, %d)", e, x, y, key), b.w.Tie(e, x, y, key), b.p.tie(e, x, y, key))
}

func (b both) untie(e int) {
	b.t.Helper()
	checkErr(b.t, fmt.Sprintf("Untie(%d)", e), b.w.Untie(e), b.p.untie(e))
}

func (b both) check() {
	b.t.Helper()
	b.p.checkAll(b.t, b.w)
}

// loop makes a face of items that are alone, in their order.
func (b both) loop(items ...int) {
	b.t.Helper()
	for _, x := range items[1:] {
		b.merge(items[0], x)
	}
}

// WB1: New.

func TestNew(t *testing.T) {
	for _, c := range [][2]int{{1, 1}, {1, 9}, {2, 1}, {3, 2}, {8, 2}, {9, 1}, {4, 40}, {40, 4}} {
		newBoth(t, c[0], c[1]).check()
	}
	for _, c := range [][2]int{{mostItems, mostTies}, {mostItems, 1}, {1, mostTies}, {mostItems - 1, mostTies - 1}} {
		w := made(t, c[0], c[1])
		for _, x := range []int{0, c[0] / 2, c[0] - 1} {
			size, err := w.Len(x)
			check(t, "Len", size, err, 1, 0)
			weakest, err := w.Weakest(x, x)
			check(t, "Weakest", weakest, err, -1, 0)
		}
		_, err := w.Len(c[0])
		checkErr(t, "Len of the item behind the last", err, api.ErrRange)
		checkErr(t, "Untie of the last tie", w.Untie(c[1]-1), api.ErrApart)
		checkErr(t, "Untie of the tie behind the last", w.Untie(c[1]), api.ErrRange)
	}
}

func TestNewWrong(t *testing.T) {
	wrong := func(items, ties int) {
		t.Helper()
		w, err := web.New(items, ties)
		checkErr(t, fmt.Sprintf("New(%d, %d)", items, ties), err, api.ErrArg)
		if w != nil {
			t.Fatalf("New(%d, %d): %v beside an error", items, ties, w)
		}
	}
	bad := []int{0, -1, math.MinInt, math.MinInt32, 1 << 23, 1<<32 + 1, math.MaxInt32, math.MaxInt}
	for _, n := range append(bad, mostItems+1) {
		for _, ties := range append(bad, 1, mostTies) {
			wrong(n, ties)
		}
	}
	for _, n := range append(bad, mostTies+1, mostItems) {
		for _, items := range append(bad, 1, mostItems) {
			wrong(items, n)
		}
	}
}

// A Web with the most room, of which little is used, stays small: with all its
// room made, this would take some minutes.
func TestNewAtOnce(t *testing.T) {
	for range 1 << 14 {
		w := made(t, mostItems, mostTies)
		checkErr(t, "Merge", w.Merge(5, 6), 0)
		checkErr(t, "Tie", w.Tie(3, 6, 7, 9), 0)
		got, err := w.Weakest(5, 7)
		check(t, "Weakest", got, err, 3, 0)
	}
}

func TestExample(t *testing.T) {
	w := made(t, 3, 1)
	checkErr(t, "Merge", w.Merge(0, 1), 0)
	checkErr(t, "Tie", w.Tie(0, 1, 2, 7), 0)
	got, err := w.Weakest(0, 2)
	check(t, "Weakest", got, err, 0, 0)
}

// What the document says, told without the plain lists.
func TestWrittenOut(t *testing.T) {
	w := made(t, 9, 3)
	for _, c := range [][2]int{{0, 1}, {0, 2}, {3, 4}, {5, 6}} {
		checkErr(t, "Merge", w.Merge(c[0], c[1]), 0)
	}
	checkErr(t, "Tie", w.Tie(2, 1, 4, -3), 0)
	checkErr(t, "Tie", w.Tie(0, 3, 6, 8), 0)
	for _, c := range []struct {
		a, b, weakest int
		err           api.Errno
	}{
		{0, 2, -1, 0}, {0, 4, 2, 0}, {3, 0, 2, 0}, {2, 5, 2, 0}, {4, 6, 0, 0},
		{6, 4, 0, 0}, {7, 7, -1, 0}, {7, 8, 0, api.ErrApart}, {0, 7, 0, api.ErrApart},
	} {
		got, err := w.Weakest(c.a, c.b)
		check(t, "Weakest", got, err, c.weakest, c.err)
		linked, err := w.Linked(c.a, c.b)
		check(t, "Linked", linked, err, c.err == 0, 0)
		same, err := w.Same(c.a, c.b)
		check(t, "Same", same, err, c.weakest == -1, 0)
	}
	checkErr(t, "Merge of linked faces", w.Merge(0, 5), api.ErrSame)
	checkErr(t, "Merge of one face", w.Merge(0, 2), api.ErrSame)
	checkErr(t, "Tie of linked faces", w.Tie(1, 2, 5, 0), api.ErrSame)
	checkErr(t, "Split of two faces that are linked", w.Split(0, 5), api.ErrApart)
	checkErr(t, "Split", w.Split(1, 2), 0)
	for x, want := range [][]int{{0, 2}, nil, {2, 0}} {
		linked, err := w.Linked(x, 5)
		check(t, "Linked behind Split", linked, err, want == nil, 0)
		if list, _ := w.Walk(x); want != nil && !slices.Equal(list, want) {
			t.Fatalf("Walk(%d): %v, want %v", x, list, want)
		}
	}
	checkErr(t, "Merge of what Split parted", w.Merge(5, 0), 0)
	list, err := w.Walk(6)
	checkErr(t, "Walk", err, 0)
	if !slices.Equal(list, []int{6, 0, 2, 5}) {
		t.Fatalf("Walk: %v", list)
	}
}

// WB1: Same, Walk, Len; Split, Merge, Apart.

// two is a Web of two faces, of items 0 to k-1, merged from front on, and k to
// n-1, merged from k+other on, and of an item that is alone, n.
func two(t *testing.T, n, k, front, other, ties int) both {
	t.Helper()
	b := newBoth(t, n+1, ties)
	for x := range k - 1 {
		b.merge(front, (front+x+1)%k)
	}
	for x := range n - k - 1 {
		b.merge(k+other, k+(other+x+1)%(n-k))
	}
	return b
}

func TestMerge(t *testing.T) {
	const n = 6
	for k := 1; k < n; k++ {
		for front := range k {
			for other := range n - k {
				for x := range k {
					for y := k; y < n; y++ {
						b := two(t, n, k, front, other, 1)
						b.merge(x, y)
						b.check()
						b.merge(y, x)
						b.check()
					}
				}
			}
		}
	}
}

func TestSplit(t *testing.T) {
	const n = 6
	for front := range n {
		for x := range n {
			for y := range n + 1 {
				b := two(t, n, n, front, 0, 1)
				b.split(x, y)
				b.check()
				b.merge(x, y)
				b.check()
			}
		}
	}
}

func TestApart(t *testing.T) {
	const n = 5
	for front := range n {
		for x := range n {
			b := two(t, n, n, front, 0, 2)
			b.tie(1, x, n, 4)
			b.tie(0, (x+1)%n, n, 4)
			b.apart(x)
			b.check()
			b.apart(x)
			b.apart(n)
			b.check()
			b.tie(0, (x+1)%n, n, 3)
			b.check()
		}
	}
}

// Walk's answer is new memory, spare room too.
func TestWalkAlone(t *testing.T) {
	for x, want := range [][]int{{0}, {1}, {2, 4, 3}, {3, 2, 4}, {4, 3, 2}} {
		b := newBoth(t, 5, 1)
		b.loop(4, 3, 2)
		one, _ := b.w.Walk(x)
		two, _ := b.w.Walk(x)
		one = one[:cap(one)]
		for i := range one {
			one[i] = -7
		}
		b.check()
		b.merge(2, 0)
		b.split(4, 2)
		b.tie(0, 2, 3, 1)
		if !slices.Equal(two, want) {
			t.Fatalf("Walk behind a change: %v, want %v", two, want)
		}
		if slices.ContainsFunc(one, func(v int) bool { return v != -7 }) {
			t.Fatalf("an answer of Walk was changed: %v", one)
		}
	}
}

// WB2: Tie, Untie, Tied, Linked, Weakest.

func TestTie(t *testing.T) {
	b := newBoth(t, 4, 3)
	b.tie(1, 0, 1, 5)
	b.check()
	b.tie(1, 2, 3, 5)
	b.tie(1, 0, 1, 5)
	b.tie(0, 1, 0, 5)
	b.tie(0, 2, 2, 5)
	b.check()
	b.tie(2, 2, 1, 4)
	b.check()
	b.untie(1)
	b.check()
	b.untie(1)
	b.check()
	b.tie(1, 3, 2, 4)
	b.check()
	b.untie(2)
	b.untie(1)
	b.untie(0)
	b.check()
}

// Item 0 at either end, or at none: what stands for no tie is no tie's ends.
func TestTieEnds(t *testing.T) {
	for x := range 3 {
		for y := range 3 {
			b := newBoth(t, 3, 1)
			b.tie(0, x, y, 0)
			b.check()
			b.tie(0, y, x, 0)
			b.check()
			b.untie(0)
			b.check()
		}
	}
}

// A tie that is tied anew has the new key and the new ends alone.
func TestTieAnew(t *testing.T) {
	b := newBoth(t, 4, 3)
	b.tie(0, 0, 1, 1)
	b.tie(1, 1, 2, 2)
	b.tie(2, 2, 3, 3)
	b.check()
	b.untie(0)
	b.tie(0, 0, 1, 9)
	b.check()
	b.untie(1)
	b.tie(1, 3, 0, -9)
	b.check()
}

// Each key but 2^63 - 1, however near to it, and to an item's own value.
func TestKeys(t *testing.T) {
	keys := []int64{math.MinInt64, math.MinInt64 + 1, -1 << 51, -1, 0, 1, 1 << 51, math.MaxInt64 - 2, math.MaxInt64 - 1}
	for _, k := range keys {
		for _, l := range keys {
			b := newBoth(t, 7, 3)
			b.loop(0, 1)
			b.loop(2, 3, 4)
			b.tie(0, 1, 4, k)
			b.tie(1, 3, 5, l)
			b.check()
			b.tie(2, 6, 0, math.MaxInt64)
			b.check()
			b.tie(2, 6, 0, math.MaxInt64-1)
			b.check()
		}
	}
}

// Of two ties of one key the nearer one, both ways.
func TestNearer(t *testing.T) {
	for _, key := range []int64{math.MinInt64, -1, 0, 1, math.MaxInt64 - 1} {
		for _, order := range [][3]int{{0, 1, 2}, {2, 1, 0}, {1, 0, 2}, {1, 2, 0}} {
			w := made(t, 8, 3)
			for x := 0; x < 8; x += 2 {
				checkErr(t, "Merge", w.Merge(x, x+1), 0)
			}
			for _, k := range order {
				// The road from 0 to 7 is the ties 2, 1, 0.
				checkErr(t, "Tie", w.Tie(2-k, 2*k+1, 2*k+2, key), 0)
			}
			for range 2 {
				for a := range 8 {
					for b := range 8 {
						want := -1
						switch p, q := a/2, b/2; {
						case p < q:
							want = 2 - p
						case p > q:
							want = 3 - p
						}
						got, err := w.Weakest(a, b)
						check(t, fmt.Sprintf("Weakest(%d, %d)", a, b), got, err, want, 0)
					}
				}
			}
		}
	}
}

// The first error of Tie: ErrRange, then ErrArg, then ErrSame.
func TestFirstError(t *testing.T) {
	b := newBoth(t, 5, 3)
	b.loop(0, 1)
	b.tie(0, 1, 2, 7)
	none := append([]int{5, 6, 9}, far...)
	for _, x := range none {
		for _, key := range []int64{0, math.MaxInt64} {
			for _, e := range []int{0, 1, 3, -1} {
				for _, y := range []int{0, 4, x} {
					checkErr(t, "Tie of no item", b.w.Tie(e, x, y, key), api.ErrRange)
					checkErr(t, "Tie of no item", b.w.Tie(e, y, x, key), api.ErrRange)
				}
			}
		}
	}
	for _, e := range append([]int{3, 4, 5, mostTies}, far...) {
		for _, key := range []int64{0, math.MaxInt64} {
			checkErr(t, "Tie of no tie", b.w.Tie(e, 3, 4, key), api.ErrRange)
			checkErr(t, "Tie of no tie", b.w.Tie(e, 0, 1, key), api.ErrRange)
		}
	}
	for _, c := range [][3]int{{0, 3, 4}, {0, 0, 1}, {1, 0, 2}, {1, 0, 1}, {1, 3, 4}, {1, 3, 3}} {
		checkErr(t, "Tie with no key", b.w.Tie(c[0], c[1], c[2], math.MaxInt64), api.ErrArg)
	}
	for _, c := range [][3]int{{0, 3, 4}, {0, 0, 1}, {0, 1, 2}, {1, 0, 2}, {1, 2, 1}, {1, 0, 1}, {1, 3, 3}} {
		checkErr(t, "Tie", b.w.Tie(c[0], c[1], c[2], 7), api.ErrSame)
	}
	b.check()
	b.tie(1, 3, 4, 7)
	b.check()
}

// A tie of an item stays with it, wherever its face comes to.
func TestTieStays(t *testing.T) {
	const n = 5
	for front := range n {
		for x := range n {
			for y := range n {
				for z := range n {
					b := newBoth(t, n+3, 3)
					for k := range n - 1 {
						b.merge(front, (front+k+1)%n)
					}
					b.loop(n+1, n+2)
					b.tie(0, z, n, 3)
					b.tie(1, n+1, n, 2)
					b.split(x, y)
					b.check()
					b.merge(y, n+2)
					b.check()
					b.merge(x, y)
					b.check()
					b.untie(1)
					b.merge(n+1, z)
					b.check()
					b.untie(0)
					b.check()
				}
			}
		}
	}
}

// WB3.

func TestSplitParts(t *testing.T) {
	const n = 4
	for x := range n {
		for y := range n {
			for mask := range 1 << n {
				w := made(t, 2*n+1, n+1)
				for k := 1; k < n; k++ {
					checkErr(t, "Merge", w.Merge(0, k), 0)
				}
				// An item n+k hangs on each item k of the mask.
				for k := range n {
					if mask>>k&1 == 1 {
						checkErr(t, "Tie", w.Tie(k, n+k, k, int64(k)), 0)
					}
				}
				checkErr(t, "Tie", w.Tie(n, 2*n, 2, -1), 0)
				if x == y {
					checkErr(t, "Split", w.Split(x, y), api.ErrSame)
					continue
				}
				checkErr(t, "Split", w.Split(x, y), 0)
				linked, err := w.Linked(x, y)
				check(t, "Linked", linked, err, false, 0)
				for k := range n {
					first := (k-x+n)%n < (y-x+n)%n
					tied := mask>>k&1 == 1
					linked, err = w.Linked(n+k, x)
					check(t, "Linked", linked, err, tied && first, 0)
					linked, err = w.Linked(n+k, y)
					check(t, "Linked", linked, err, tied && !first, 0)
					linked, err = w.Linked(2*n, k)
					check(t, "Linked", linked, err, first == ((2-x+n)%n < (y-x+n)%n), 0)
				}
			}
		}
	}
}

// WB1, WB2: an item that is none, and a nil Web.

// checkNone fails unless every call on an item answers that error; other is an
// item that is.
func checkNone(t *testing.T, w *web.Web, x, other int, want api.Errno) {
	t.Helper()
	for _, two := range [][2]int{{x, other}, {other, x}, {x, x}} {
		checkErr(t, "Split", w.Split(two[0], two[1]), want)
		checkErr(t, "Merge", w.Merge(two[0], two[1]), want)
		checkErr(t, "Tie", w.Tie(0, two[0], two[1], 1), want)
		same, err := w.Same(two[0], two[1])
		check(t, "Same", same, err, false, want)
		linked, err := w.Linked(two[0], two[1])
		check(t, "Linked", linked, err, false, want)
		weakest, err := w.Weakest(two[0], two[1])
		check(t, "Weakest", weakest, err, 0, want)
	}
	checkErr(t, "Apart", w.Apart(x), want)
	size, err := w.Len(x)
	check(t, "Len", size, err, 0, want)
	list, err := w.Walk(x)
	checkErr(t, "Walk", err, want)
	if len(list) != 0 {
		t.Fatalf("Walk(%d): %v beside an error", x, list)
	}
}

// checkNoTie fails unless every call on a tie answers that error.
func checkNoTie(t *testing.T, w *web.Web, e int, want api.Errno) {
	t.Helper()
	checkErr(t, "Tie", w.Tie(e, 0, 1, 1), want)
	checkErr(t, "Untie", w.Untie(e), want)
	check(t, "Tied", w.Tied(e), nil, false, 0)
}

func TestNone(t *testing.T) {
	for _, c := range [][2]int{{1, 1}, {2, 3}, {3, 2}, {4, 1}, {5, 20}, {21, 1}} {
		b := newBoth(t, c[0], c[1])
		for round := range 2 {
			for _, x := range append([]int{c[0], c[0] + 1, 5 * c[0]}, far...) {
				checkNone(t, b.w, x, c[0]-1, api.ErrRange)
				checkNone(t, b.w, x, 0, api.ErrRange)
			}
			for _, e := range append([]int{c[1], c[1] + 1, 5 * c[1]}, far...) {
				checkNoTie(t, b.w, e, api.ErrRange)
			}
			b.check()
			if round == 0 {
				b.merge(0, c[0]/2)
				b.tie(c[1]-1, 0, c[0]-1, 4)
			}
		}
	}
}

func TestNil(t *testing.T) {
	var w *web.Web
	for _, x := range append([]int{0, 1, mostItems - 1}, far...) {
		checkNone(t, w, x, 0, api.ErrArg)
		checkNoTie(t, w, x, api.ErrArg)
	}
	checkErr(t, "Tie", w.Tie(0, 0, 1, math.MaxInt64), api.ErrArg)
}

// WB1 to WB3, and rule 4.

// steps are all that can be done with so many items and ties.
func steps(items, ties int) []func(b both) {
	var out []func(b both)
	for x := range items {
		out = append(out, func(b both) { b.apart(x) })
		for y := range items {
			out = append(out, func(b both) { b.merge(x, y) }, func(b both) { b.split(x, y) })
			for e := range ties {
				if x < y {
					out = append(out, func(b both) { b.tie(e, x, y, int64(e/2)) })
				}
			}
		}
	}
	for e := range ties {
		out = append(out, func(b both) { b.untie(e) })
	}
	return out
}

// All ways of some steps with few items; nothing is asked ahead of the last one.
func TestEachWay(t *testing.T) {
	all := steps(4, 2)
	for i := range all {
		for j := range all {
			for k := range all {
				b := newBoth(t, 4, 2)
				b.merge(3, 1)
				b.tie(1, 1, 2, 0)
				for _, s := range []int{i, j, k} {
					all[s](b)
				}
				b.check()
			}
		}
	}
}

// pair is a Web, and one that is handled alike, but is asked far less often:
// what was asked must not be seen later on.
type pair struct{ often, seldom *web.Web }

// step does one step on both, and on the plain lists.
func (p pair) step(t *testing.T, r *rand.Rand, l *plain, merge int) {
	t.Helper()
	a, b, e := r.Intn(l.items+2)-1, r.Intn(l.items+2)-1, r.Intn(len(l.ties)+2)-1
	key := int64(r.Intn(6)) - 3
	switch r.Intn(50) {
	case 0:
		key = math.MinInt64
	case 1, 2, 3:
		key = math.MaxInt64 - 1
	case 4:
		key = math.MaxInt64
	}
	var do func(*web.Web) error
	var want api.Errno
	switch k := r.Intn(32); {
	case k < merge:
		do, want = func(w *web.Web) error { return w.Merge(a, b) }, l.merge(a, b)
	case k < 12:
		if l.is(a) {
			list := l.walk(a)
			b = list[r.Intn(len(list))]
		}
		do, want = func(w *web.Web) error { return w.Split(a, b) }, l.split(a, b)
	case k < 14:
		do, want = func(w *web.Web) error { return w.Split(a, b) }, l.split(a, b)
	case k < 16:
		do, want = func(w *web.Web) error { return w.Apart(a) }, l.apart(a)
	case k < 26:
		do, want = func(w *web.Web) error { return w.Tie(e, a, b, key) }, l.tie(e, a, b, key)
	default:
		do, want = func(w *web.Web) error { return w.Untie(e) }, l.untie(e)
	}
	checkErr(t, "a step", do(p.often), want)
	checkErr(t, "a step", do(p.seldom), want)
}

func TestAsLists(t *testing.T) {
	for _, c := range [][2]int{{1, 1}, {2, 1}, {3, 3}, {5, 2}, {12, 12}, {40, 12}, {24, 30}} {
		r := rand.New(rand.NewSource(int64(c[0]*100 + c[1])))
		p, l := pair{made(t, c[0], c[1]), made(t, c[0], c[1])}, newPlain(c[0], c[1])
		for step := range 4000 {
			// Phases of few great faces, and of many small ones.
			p.step(t, r, l, 3+step/400%2*7)
			x, y := r.Intn(c[0]), r.Intn(c[0])
			l.checkItem(t, p.often, x)
			l.checkTwo(t, p.often, x, y)
			if step%400 == 399 {
				l.checkAll(t, p.often)
				l.checkAll(t, p.seldom)
			}
		}
	}
}

// Two Webs are each other's business in nothing.
func TestTwo(t *testing.T) {
	one, two := newBoth(t, 6, 3), newBoth(t, 6, 3)
	one.loop(0, 1, 2)
	two.loop(3, 2)
	one.tie(0, 2, 3, 1)
	two.tie(0, 2, 5, 2)
	one.check()
	two.check()
	one.untie(0)
	one.split(0, 2)
	one.check()
	two.check()
}

// Of great faces, and of long roads, each call but Walk needs few steps: to go
// over all items would take some hours.
func TestAtOnce(t *testing.T) {
	const n = 1 << 17
	w := made(t, 2*n, n)
	for x := 1; x < n; x++ {
		checkErr(t, "Merge", w.Merge(0, x), 0)
	}
	// The items n to 2n-1 are a chain that hangs on the face of all others.
	checkErr(t, "Tie", w.Tie(0, 0, n, 5), 0)
	for x := 1; x < n; x++ {
		checkErr(t, "Tie", w.Tie(x, n+x-1, n+x, int64(x%1000)+6), 0)
	}
	for i := range 1 << 14 {
		a, b := 1+i*7%(n/2-1), n/2+i*5%(n/2)
		checkErr(t, "Split", w.Split(a, b), 0)
		size, err := w.Len(a)
		check(t, "Len", size, err, b-a, 0)
		linked, err := w.Linked(b-1, 2*n-1-i)
		check(t, "Linked", linked, err, false, 0)
		got, err := w.Weakest(b, n+i)
		check(t, "Weakest", got, err, 0, 0)
		checkErr(t, "Merge", w.Merge(b, a), 0)
		checkErr(t, "Apart", w.Apart(b), 0)
		checkErr(t, "Merge", w.Merge((b+1)%n, b), 0)
		got, err = w.Weakest(2*n-1-i, b)
		check(t, "Weakest", got, err, 0, 0)
		checkErr(t, "Untie", w.Untie(n/2+i), 0)
		linked, err = w.Linked(a, 2*n-1)
		check(t, "Linked", linked, err, false, 0)
		checkErr(t, "Tie", w.Tie(n/2+i, n+n/2+i, n+n/2+i-1, 6), 0)
	}
}

// The most items and ties that there may be, all of them used.
func TestMost(t *testing.T) {
	w := made(t, mostItems, mostTies)
	// Faces of four items each, which lie in a row.
	for x := range mostItems {
		if x%4 == 0 {
			continue
		}
		if err := w.Merge(x-1, x); err != nil {
			t.Fatalf("Merge(%d, %d): %v", x-1, x, err)
		}
	}
	const faces = mostItems / 4
	for e := range faces - 1 {
		key := int64(e+1) << 31
		if err := w.Tie(mostTies-1-e, 4*e+3, 4*e+5, key); err != nil {
			t.Fatalf("Tie(%d): %v", mostTies-1-e, err)
		}
	}
	checkErr(t, "Tie", w.Tie(0, 0, mostItems-1, 1), api.ErrSame)
	for _, c := range [][3]int{
		{0, mostItems - 1, mostTies - 1},
		{mostItems - 1, 0, mostTies - 1},
		{4, mostItems - 1, mostTies - 2},
		{mostItems - 1, mostItems - 5, 1},
		{mostItems - 1, mostItems - 4, -1},
	} {
		got, err := w.Weakest(c[0], c[1])
		check(t, "Weakest", got, err, c[2], 0)
	}
	checkErr(t, "Untie", w.Untie(1), 0)
	_, err := w.Weakest(mostItems-1, mostItems-5)
	checkErr(t, "Weakest", err, api.ErrApart)
	checkErr(t, "Tie of the last tie that is left", w.Tie(0, 0, mostItems-1, math.MinInt64), 0)
	got, err := w.Weakest(mostItems-4, mostItems-5)
	check(t, "Weakest", got, err, 0, 0)
	checkErr(t, "Split", w.Split(4*7, 4*7+2), 0)
	linked, err := w.Linked(4*7, 4*7+2)
	check(t, "Linked", linked, err, false, 0)
}
