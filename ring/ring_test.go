package ring_test

import (
	"errors"
	"math"
	"math/rand"
	"slices"
	"testing"

	"plait/api"
	"plait/ring"
	"plait/seq"
)

// far are items that no Rings have.
var far = []int{-1, -2, math.MinInt, math.MinInt32, seq.MaxItems, seq.MaxItems + 1, math.MaxInt32, math.MaxInt32 + 1, math.MaxUint32, math.MaxInt - 1, math.MaxInt}

// checkErr fails unless err is the number want (0: nil), as errors.As finds it.
func checkErr(t *testing.T, what string, err error, want api.Errno) {
	t.Helper()
	if want == 0 {
		if err != nil {
			t.Fatalf("%s: error %v, want none", what, err)
		}
		return
	}
	var e api.Errno
	if !errors.As(err, &e) || e != want {
		t.Fatalf("%s: error %v, want %v", what, err, want)
	}
}

// check fails unless a call answered just that.
func check[T comparable](t *testing.T, what string, got T, err error, want T, wantErr api.Errno) {
	t.Helper()
	checkErr(t, what, err, wantErr)
	if got != want {
		t.Fatalf("%s: %v, want %v", what, got, want)
	}
}

func made(t *testing.T, n int) *ring.Rings {
	t.Helper()
	r, err := ring.New(n)
	checkErr(t, "New", err, 0)
	if r == nil {
		t.Fatalf("New(%d): nil beside no error", n)
	}
	return r
}

// loop makes a cycle of items that are alone; the first one is its front.
func loop(t *testing.T, r *ring.Rings, items ...int) {
	t.Helper()
	for _, x := range items[1:] {
		checkErr(t, "Merge", r.Merge(items[0], x), 0)
	}
}

// cycles are cycles as plain lists, each from its front on.
type cycles struct {
	n    int
	rows [][]int
}

func newCycles(n int) *cycles {
	c := &cycles{n: n}
	for x := range n {
		c.rows = append(c.rows, []int{x})
	}
	return c
}

// is tells whether there are such items.
func (c *cycles) is(items ...int) bool {
	return !slices.ContainsFunc(items, func(x int) bool { return x < 0 || x >= c.n })
}

// find is in which row an item stands, and at which place there.
func (c *cycles) find(x int) (int, int) {
	for i, row := range c.rows {
		if k := slices.Index(row, x); k >= 0 {
			return i, k
		}
	}
	return -1, -1
}

// take is an item's row from the item on, all of it; it is no row any more.
func (c *cycles) take(x int) []int {
	i, k := c.find(x)
	row := from(c.rows[i], k)
	c.rows = slices.Delete(c.rows, i, i+1)
	return row
}

// from is a row from its k-th item on, all of it.
func from(row []int, k int) []int { return slices.Concat(row[k:], row[:k]) }

func (c *cycles) split(a, b int) api.Errno {
	if !c.is(a, b) {
		return api.ErrRange
	}
	if a == b {
		return api.ErrSame
	}
	i, _ := c.find(a)
	if j, _ := c.find(b); i != j {
		return api.ErrApart
	}
	row := c.take(a)
	k := slices.Index(row, b)
	c.rows = append(c.rows, slices.Clone(row[:k]), slices.Clone(row[k:]))
	return 0
}

func (c *cycles) merge(a, b int) api.Errno {
	if !c.is(a, b) {
		return api.ErrRange
	}
	i, _ := c.find(a)
	if j, _ := c.find(b); i == j {
		return api.ErrSame
	}
	c.rows = append(c.rows, slices.Concat(c.take(a), c.take(b)))
	return 0
}

func (c *cycles) apart(x int) api.Errno {
	if !c.is(x) {
		return api.ErrRange
	}
	if i, _ := c.find(x); len(c.rows[i]) == 1 {
		return api.ErrSame
	}
	row := c.take(x)
	c.rows = append(c.rows, []int{x}, row[1:])
	return 0
}

func (c *cycles) turn(x int) api.Errno {
	if !c.is(x) {
		return api.ErrRange
	}
	c.rows = append(c.rows, c.take(x))
	return 0
}

// checkRow fails unless a cycle is the plain list, as every question that is
// asked of the k-th item tells it.
func checkRow(t *testing.T, r *ring.Rings, row []int, k int) {
	t.Helper()
	x, n := row[k], len(row)
	for _, c := range []struct {
		what string
		ask  func(int) (int, error)
		want int
	}{
		{"Front", r.Front, row[0]},
		{"Len", r.Len, n},
		{"Next", r.Next, row[(k+1)%n]},
		{"Prev", r.Prev, row[(k+n-1)%n]},
		{"Front, asked again", r.Front, row[0]},
	} {
		got, err := c.ask(x)
		check(t, c.what, got, err, c.want, 0)
	}
	for _, y := range []int{x, row[0], row[n-1], row[n/2]} {
		same, err := r.Same(x, y)
		check(t, "Same", same, err, true, 0)
	}
	list, err := r.Walk(x)
	checkErr(t, "Walk", err, 0)
	if !slices.Equal(list, from(row, k)) {
		t.Fatalf("Walk(%d): %v, want %v", x, list, from(row, k))
	}
}

// checkAll fails unless all is as the plain lists tell it.
func (c *cycles) checkAll(t *testing.T, r *ring.Rings) {
	t.Helper()
	for i, row := range c.rows {
		for k := range row {
			checkRow(t, r, row, k)
		}
		other := c.rows[(i+1)%len(c.rows)]
		same, err := r.Same(row[len(row)/2], other[len(other)/2])
		check(t, "Same", same, err, len(c.rows) == 1, 0)
	}
}

// checkRows fails unless the cycles are these, each told from its front on.
func checkRows(t *testing.T, r *ring.Rings, rows ...[]int) {
	t.Helper()
	(&cycles{rows: rows}).checkAll(t, r)
}

// walks are the cycles, whatever their fronts: each from its least item on.
func walks(t *testing.T, r *ring.Rings, n int) [][]int {
	t.Helper()
	var out [][]int
	for x := range n {
		list, err := r.Walk(x)
		checkErr(t, "Walk", err, 0)
		if x == slices.Min(list) {
			out = append(out, list)
		}
	}
	return out
}

func checkWalks(t *testing.T, r *ring.Rings, n int, want [][]int) {
	t.Helper()
	if got := walks(t, r, n); !slices.EqualFunc(got, want, slices.Equal[[]int]) {
		t.Fatalf("the cycles are %v, want %v", got, want)
	}
}

// RG1: New.

func TestNew(t *testing.T) {
	for _, n := range []int{1, 2, 3, 64, 100} {
		newCycles(n).checkAll(t, made(t, n))
	}
	for _, n := range []int{1 << 16, seq.MaxItems - 1, seq.MaxItems} {
		r := made(t, n)
		for _, x := range []int{n - 1, 0, 1, n / 2} {
			checkRow(t, r, []int{x}, 0)
		}
		same, err := r.Same(0, n-1)
		check(t, "Same of the first item and the last", same, err, false, 0)
		got, err := r.Len(n)
		check(t, "Len of the item behind the last", got, err, 0, api.ErrRange)
	}
}

func TestNewWrong(t *testing.T) {
	for _, n := range []int{0, -1, math.MinInt, math.MinInt32, seq.MaxItems + 1, math.MaxInt32, 1<<32 + 1, math.MaxInt} {
		r, err := ring.New(n)
		checkErr(t, "New", err, api.ErrArg)
		if r != nil {
			t.Fatalf("New(%d): %v beside an error", n, r)
		}
	}
}

// RG1: Same, Len, Next, Prev, Walk, Front.

func TestExample(t *testing.T) {
	r := made(t, 3)
	checkErr(t, "Merge", r.Merge(0, 1), 0)
	checkErr(t, "Merge", r.Merge(0, 2), 0)
	checkRows(t, r, []int{0, 1, 2})
	checkErr(t, "Split", r.Split(0, 2), 0)
	checkRows(t, r, []int{0, 1}, []int{2})
}

// Each question at the front, at the last one, in the midst, of one of two, and
// of an item that is alone.
func TestQuestions(t *testing.T) {
	r := made(t, 8)
	loop(t, r, 4, 0, 7, 2)
	loop(t, r, 6, 1)
	for _, c := range []struct{ x, length, next, prev, front int }{
		{4, 4, 0, 2, 4},
		{0, 4, 7, 4, 4},
		{7, 4, 2, 0, 4},
		{2, 4, 4, 7, 4},
		{6, 2, 1, 1, 6},
		{1, 2, 6, 6, 6},
		{3, 1, 3, 3, 3},
		{5, 1, 5, 5, 5},
	} {
		got, err := r.Len(c.x)
		check(t, "Len", got, err, c.length, 0)
		got, err = r.Next(c.x)
		check(t, "Next", got, err, c.next, 0)
		got, err = r.Prev(c.x)
		check(t, "Prev", got, err, c.prev, 0)
		got, err = r.Front(c.x)
		check(t, "Front", got, err, c.front, 0)
		for y := range 8 {
			front, _ := r.Front(y)
			same, err := r.Same(c.x, y)
			check(t, "Same", same, err, front == c.front, 0)
		}
	}
	checkRows(t, r, []int{4, 0, 7, 2}, []int{6, 1}, []int{3}, []int{5})
}

// Walk begins with the item that is named, and leaves the front where it is.
func TestWalk(t *testing.T) {
	r := made(t, 4)
	loop(t, r, 3, 1, 0)
	for range 2 {
		for x, want := range [][]int{{0, 3, 1}, {1, 0, 3}, {2}, {3, 1, 0}} {
			list, err := r.Walk(x)
			checkErr(t, "Walk", err, 0)
			if !slices.Equal(list, want) {
				t.Fatalf("Walk(%d): %v, want %v", x, list, want)
			}
			front, err := r.Front(1)
			check(t, "Front", front, err, 3, 0)
		}
	}
}

// Walk's answer is new memory, spare room too.
func TestWalkAlone(t *testing.T) {
	for x, want := range [][]int{{0}, {1}, {2, 4, 3}, {3, 2, 4}, {4, 3, 2}} {
		r := made(t, 5)
		loop(t, r, 4, 3, 2)
		a, _ := r.Walk(x)
		b, _ := r.Walk(x)
		a = a[:cap(a)]
		for i := range a {
			a[i] = -7
		}
		if !slices.Equal(b, want) {
			t.Fatalf("Walk behind a write into another answer: %v, want %v", b, want)
		}
		checkRows(t, r, []int{4, 3, 2}, []int{0}, []int{1})
		checkErr(t, "Turn", r.Turn(3), 0)
		checkErr(t, "Merge", r.Merge(2, 0), 0)
		checkErr(t, "Split", r.Split(4, 2), 0)
		if !slices.Equal(b, want) {
			t.Fatalf("Walk behind a change: %v, want %v", b, want)
		}
		if slices.ContainsFunc(a, func(v int) bool { return v != -7 }) {
			t.Fatalf("an answer of Walk was changed: %v", a)
		}
	}
}

// RG2: Split.

// Each two of a cycle, whichever one is its front: neighbours both ways round,
// the front among them, or on either side of the split.
func TestSplit(t *testing.T) {
	const n = 6
	for front := range n {
		for a := range n {
			for b := range n {
				if a == b {
					continue
				}
				r := made(t, n+1)
				loop(t, r, 0, 1, 2, 3, 4, 5)
				checkErr(t, "Turn", r.Turn(front), 0)
				checkErr(t, "Split", r.Split(a, b), 0)
				all := from([]int{0, 1, 2, 3, 4, 5}, a)
				k := slices.Index(all, b)
				checkRows(t, r, all[:k], all[k:], []int{6})
			}
		}
	}
}

func TestSplitOfTwo(t *testing.T) {
	for _, front := range []int{0, 1} {
		for _, a := range []int{0, 1} {
			r := made(t, 2)
			checkErr(t, "Merge", r.Merge(front, 1-front), 0)
			checkErr(t, "Split", r.Split(a, 1-a), 0)
			checkRows(t, r, []int{0}, []int{1})
			checkErr(t, "Split once more", r.Split(a, 1-a), api.ErrApart)
			checkRows(t, r, []int{0}, []int{1})
		}
	}
}

// An item and itself, and items of two cycles: nothing is changed, fronts among
// it.
func TestSplitWrong(t *testing.T) {
	r := made(t, 6)
	loop(t, r, 3, 1, 0)
	loop(t, r, 4, 2)
	rows := [][]int{{3, 1, 0}, {4, 2}, {5}}
	for i, row := range rows {
		for _, a := range row {
			checkErr(t, "Split of an item and itself", r.Split(a, a), api.ErrSame)
			checkRows(t, r, rows...)
			for j, other := range rows {
				for _, b := range other {
					if i != j {
						checkErr(t, "Split of two cycles", r.Split(a, b), api.ErrApart)
						checkRows(t, r, rows...)
					}
				}
			}
		}
	}
}

// RG2: Merge.

// Whichever items of two cycles are named, and whichever ones are their fronts.
func TestMerge(t *testing.T) {
	for _, fronts := range [][2]int{{0, 3}, {1, 3}, {2, 4}, {0, 5}} {
		for a := range 3 {
			for b := 3; b < 6; b++ {
				r := made(t, 7)
				loop(t, r, 0, 1, 2)
				loop(t, r, 3, 4, 5)
				checkErr(t, "Turn", r.Turn(fronts[0]), 0)
				checkErr(t, "Turn", r.Turn(fronts[1]), 0)
				first, second := from([]int{0, 1, 2}, a), from([]int{3, 4, 5}, b-3)
				if fronts[1] == 4 {
					checkErr(t, "Merge", r.Merge(b, a), 0)
					first, second = second, first
				} else {
					checkErr(t, "Merge", r.Merge(a, b), 0)
				}
				checkRows(t, r, slices.Concat(first, second), []int{6})
			}
		}
	}
}

func TestMergeAlone(t *testing.T) {
	r := made(t, 5)
	checkErr(t, "Merge of items that are alone", r.Merge(4, 0), 0)
	checkRows(t, r, []int{4, 0}, []int{1}, []int{2}, []int{3})
	checkErr(t, "Merge of a cycle and one alone", r.Merge(0, 2), 0)
	checkRows(t, r, []int{0, 4, 2}, []int{1}, []int{3})
	checkErr(t, "Merge of one alone and a cycle", r.Merge(3, 4), 0)
	checkRows(t, r, []int{3, 4, 2, 0}, []int{1})
	checkErr(t, "Merge of one alone and a cycle's front", r.Merge(1, 3), 0)
	checkRows(t, r, []int{1, 3, 4, 2, 0})
}

// Two of one cycle, an item and itself too: nothing is changed, fronts among it.
func TestMergeSame(t *testing.T) {
	r := made(t, 6)
	loop(t, r, 3, 1, 0)
	loop(t, r, 4, 2)
	rows := [][]int{{3, 1, 0}, {4, 2}, {5}}
	for range 2 {
		for _, row := range rows {
			for _, a := range row {
				for _, b := range row {
					checkErr(t, "Merge of one cycle", r.Merge(a, b), api.ErrSame)
					checkRows(t, r, rows...)
				}
			}
		}
	}
}

// RG2: Apart.

func TestApart(t *testing.T) {
	for _, size := range []int{2, 3, 5} {
		for front := range size {
			for x := range size {
				r, c := made(t, size+1), newCycles(size+1)
				for y := 1; y < size; y++ {
					checkErr(t, "Merge", r.Merge(0, y), c.merge(0, y))
				}
				checkErr(t, "Turn", r.Turn(front), c.turn(front))
				others := from(c.rows[1], (x-front+size)%size)[1:]
				checkErr(t, "Apart", r.Apart(x), 0)
				checkRows(t, r, []int{x}, others, []int{size})
				checkErr(t, "Apart once more", r.Apart(x), api.ErrSame)
				checkErr(t, "Apart of one that was always alone", r.Apart(size), api.ErrSame)
				checkRows(t, r, []int{x}, others, []int{size})
			}
		}
	}
}

// One after another, till all are alone.
func TestApartAll(t *testing.T) {
	r := made(t, 4)
	loop(t, r, 2, 0, 3, 1)
	checkErr(t, "Apart of one in the midst", r.Apart(0), 0)
	checkRows(t, r, []int{3, 1, 2}, []int{0})
	checkErr(t, "Apart of the last one", r.Apart(2), 0)
	checkRows(t, r, []int{3, 1}, []int{0}, []int{2})
	checkErr(t, "Apart of one of two", r.Apart(1), 0)
	checkRows(t, r, []int{0}, []int{1}, []int{2}, []int{3})
	for x := range 4 {
		checkErr(t, "Apart of an item that is alone", r.Apart(x), api.ErrSame)
	}
	checkRows(t, r, []int{0}, []int{1}, []int{2}, []int{3})
}

// RG2: Turn.

func TestTurn(t *testing.T) {
	r := made(t, 6)
	loop(t, r, 0, 1, 2, 3)
	for _, x := range []int{0, 1, 1, 0, 3, 2, 0, 2, 3, 3} {
		checkErr(t, "Turn", r.Turn(x), 0)
		checkRows(t, r, from([]int{0, 1, 2, 3}, x), []int{4}, []int{5})
		checkErr(t, "Turn of an item that is alone", r.Turn(4), 0)
		checkRows(t, r, from([]int{0, 1, 2, 3}, x), []int{4}, []int{5})
	}
}

// RG3.

// some makes two cycles, of items 0 to k-1 and of k to n-1, with the fronts
// that are named.
func some(t *testing.T, n, k, front, other int) *ring.Rings {
	t.Helper()
	r := made(t, n)
	for x := 1; x < k; x++ {
		checkErr(t, "Merge", r.Merge(0, x), 0)
	}
	for x := k + 1; x < n; x++ {
		checkErr(t, "Merge", r.Merge(k, x), 0)
	}
	checkErr(t, "Turn", r.Turn(front), 0)
	checkErr(t, "Turn", r.Turn(other), 0)
	return r
}

func TestMergeThenSplit(t *testing.T) {
	const n = 5
	for k := 1; k < n; k++ {
		for a := range k {
			for b := k; b < n; b++ {
				r := some(t, n, k, k-1, n-1)
				was := walks(t, r, n)
				checkErr(t, "Merge", r.Merge(a, b), 0)
				checkErr(t, "Split", r.Split(a, b), 0)
				checkWalks(t, r, n, was)
				for _, x := range []int{a, b} {
					front, err := r.Front(x)
					check(t, "Front", front, err, x, 0)
				}
				checkErr(t, "Merge", r.Merge(b, a), 0)
				checkErr(t, "Split", r.Split(b, a), 0)
				checkWalks(t, r, n, was)
				checkErr(t, "Merge", r.Merge(a, b), 0)
				checkErr(t, "Split, the other way round", r.Split(b, a), 0)
				checkWalks(t, r, n, was)
			}
		}
	}
}

func TestSplitThenMerge(t *testing.T) {
	const n = 5
	for a := range n {
		for b := range n {
			if a == b {
				continue
			}
			r := some(t, n+1, n, 2, n)
			was := walks(t, r, n+1)
			checkErr(t, "Split", r.Split(a, b), 0)
			checkErr(t, "Merge", r.Merge(a, b), 0)
			checkWalks(t, r, n+1, was)
			front, err := r.Front(b)
			check(t, "Front", front, err, a, 0)
		}
	}
}

// RG1, RG2: an item that is none, and nil Rings.

// checkNone fails unless every call on an item answers that error; other is an
// item that is.
func checkNone(t *testing.T, r *ring.Rings, x, other int, want api.Errno) {
	t.Helper()
	for _, y := range []int{x, other} {
		for _, two := range [][2]int{{x, y}, {y, x}} {
			checkErr(t, "Split", r.Split(two[0], two[1]), want)
			checkErr(t, "Merge", r.Merge(two[0], two[1]), want)
			same, err := r.Same(two[0], two[1])
			check(t, "Same", same, err, false, want)
		}
	}
	checkErr(t, "Apart", r.Apart(x), want)
	checkErr(t, "Turn", r.Turn(x), want)
	for _, ask := range []func(int) (int, error){r.Len, r.Next, r.Prev, r.Front} {
		got, err := ask(x)
		check(t, "a question", got, err, 0, want)
	}
	list, err := r.Walk(x)
	checkErr(t, "Walk", err, want)
	if len(list) != 0 {
		t.Fatalf("Walk(%d): %v beside an error", x, list)
	}
}

func TestNoItem(t *testing.T) {
	for _, n := range []int{1, 2, 3, 64} {
		r, c := made(t, n), newCycles(n)
		for range 2 {
			for _, x := range append([]int{n, n + 1, 2*n + 1}, far...) {
				checkNone(t, r, x, n-1, api.ErrRange)
				checkNone(t, r, x, 0, api.ErrRange)
			}
			c.checkAll(t, r)
			for x := range n - 1 {
				checkErr(t, "Merge", r.Merge(n-1, x), c.merge(n-1, x))
			}
			checkErr(t, "Turn", r.Turn(n/2), c.turn(n/2))
		}
	}
	r := made(t, seq.MaxItems)
	for _, x := range far {
		checkNone(t, r, x, seq.MaxItems-1, api.ErrRange)
	}
}

func TestNil(t *testing.T) {
	var r *ring.Rings
	for _, x := range append([]int{0, 1, seq.MaxItems - 1}, far...) {
		checkNone(t, r, x, 0, api.ErrArg)
	}
}

// RG1 to RG3, and rule 4.

// steps are all that can be done with n items.
func steps(n int) []func(t *testing.T, r *ring.Rings, c *cycles) {
	var out []func(t *testing.T, r *ring.Rings, c *cycles)
	for a := range n {
		for b := range n {
			out = append(out, func(t *testing.T, r *ring.Rings, c *cycles) {
				checkErr(t, "Merge", r.Merge(a, b), c.merge(a, b))
			}, func(t *testing.T, r *ring.Rings, c *cycles) {
				checkErr(t, "Split", r.Split(a, b), c.split(a, b))
			})
		}
		out = append(out, func(t *testing.T, r *ring.Rings, c *cycles) {
			checkErr(t, "Apart", r.Apart(a), c.apart(a))
		}, func(t *testing.T, r *ring.Rings, c *cycles) {
			checkErr(t, "Turn", r.Turn(a), c.turn(a))
		})
	}
	return out
}

// All ways of some steps with few items; nothing is asked ahead of the last one.
func TestEachWay(t *testing.T) {
	eachWay(t, 3, 3)
	eachWay(t, 4, 3)
}

func eachWay(t *testing.T, n, many int) {
	all := steps(n)
	way := make([]int, many)
	for {
		r, c := made(t, n), newCycles(n)
		checkErr(t, "Merge", r.Merge(0, 1), c.merge(0, 1))
		checkErr(t, "Merge", r.Merge(0, n-1), c.merge(0, n-1))
		for _, i := range way {
			all[i](t, r, c)
		}
		c.checkAll(t, r)
		i := 0
		for ; i < many && way[i] == len(all)-1; i++ {
			way[i] = 0
		}
		if i == many {
			return
		}
		way[i]++
	}
}

// pair is Rings, and ones that are handled alike, but are asked far less often:
// what was asked must not be seen later on.
type pair struct{ often, seldom *ring.Rings }

// step does one step on both, and on the plain lists.
func (p pair) step(t *testing.T, r *rand.Rand, c *cycles, merge int) {
	t.Helper()
	a, b := r.Intn(c.n+2)-1, r.Intn(c.n+2)-1
	var do func(*ring.Rings) error
	var want api.Errno
	switch k := r.Intn(16); {
	case k < merge:
		do, want = func(x *ring.Rings) error { return x.Merge(a, b) }, c.merge(a, b)
	case k < 12:
		do, want = func(x *ring.Rings) error { return x.Split(a, b) }, c.split(a, b)
	case k < 14:
		do, want = func(x *ring.Rings) error { return x.Apart(a) }, c.apart(a)
	default:
		do, want = func(x *ring.Rings) error { return x.Turn(a) }, c.turn(a)
	}
	checkErr(t, "a step", do(p.often), want)
	checkErr(t, "a step", do(p.seldom), want)
}

func TestAsLists(t *testing.T) {
	for _, n := range []int{1, 2, 3, 5, 17, 64, 150} {
		r := rand.New(rand.NewSource(int64(n)))
		p, c := pair{made(t, n), made(t, n)}, newCycles(n)
		for step := range 3000 {
			// Phases of few long cycles, and of many short ones.
			p.step(t, r, c, 3+step/500%2*7)
			own := c.rows[r.Intn(len(c.rows))]
			checkRow(t, p.often, own, r.Intn(len(own)))
			if step%250 == 249 {
				c.checkAll(t, p.often)
				c.checkAll(t, p.seldom)
			}
		}
	}
}

// Of great cycles each call but Walk needs few steps: a walk over all items
// would take some hours.
func TestAtOnce(t *testing.T) {
	const n = 1 << 17
	r := made(t, n)
	for x := 1; x < n; x++ {
		checkErr(t, "Merge", r.Merge(0, x), 0)
	}
	for i := range 1 << 15 {
		a, b := i*7%n, n/2+i*5%(n/2)
		a %= n / 2
		checkErr(t, "Split", r.Split(a, b), 0)
		size, err := r.Len(a)
		check(t, "Len", size, err, b-a, 0)
		front, err := r.Front(b - 1)
		check(t, "Front", front, err, a, 0)
		prev, err := r.Prev(a)
		check(t, "Prev", prev, err, b-1, 0)
		next, err := r.Next(b - 1)
		check(t, "Next", next, err, a, 0)
		same, err := r.Same(a, b)
		check(t, "Same", same, err, false, 0)
		checkErr(t, "Merge", r.Merge(b, a), 0)
		checkErr(t, "Turn", r.Turn(i), 0)
		checkErr(t, "Apart", r.Apart(b), 0)
		front, err = r.Front(a)
		check(t, "Front", front, err, (b+1)%n, 0)
		checkErr(t, "Merge", r.Merge((b+1)%n, b), 0)
	}
}

// One cycle of the most items there may be.
func TestMostItems(t *testing.T) {
	const n = seq.MaxItems
	r := made(t, n)
	for x := 1; x < n; x++ {
		if err := r.Merge(x, x-1); err != nil {
			t.Fatalf("Merge(%d, %d): %v", x, x-1, err)
		}
	}
	// Each one is laid ahead of the one below it, and of all behind that.
	checkErr(t, "Merge of one cycle", r.Merge(0, n-1), api.ErrSame)
	got, err := r.Len(0)
	check(t, "Len", got, err, n, 0)
	for _, x := range []int{0, 1, n / 2, n - 2, n - 1} {
		got, err = r.Next(x)
		check(t, "Next", got, err, (x+n-1)%n, 0)
		got, err = r.Prev(x)
		check(t, "Prev", got, err, (x+1)%n, 0)
		got, err = r.Front(x)
		check(t, "Front", got, err, n-1, 0)
	}
	list, err := r.Walk(n / 2)
	checkErr(t, "Walk", err, 0)
	if len(list) != n {
		t.Fatalf("Walk: %d items, want %d", len(list), n)
	}
	for k, x := range list {
		if x != (n/2+n-k)%n {
			t.Fatalf("Walk: %d at %d", x, k)
		}
	}
	checkErr(t, "Split", r.Split(0, n/2), 0)
	got, err = r.Len(n - 1)
	check(t, "Len", got, err, n/2, 0)
	got, err = r.Front(1)
	check(t, "Front", got, err, n/2, 0)
}
