package cut_test

import (
	"errors"
	"math"
	"math/rand"
	"slices"
	"testing"

	"plait/api"
	"plait/cut"
)

// far are nodes that no Forest has.
var far = []int{-1, -2, math.MinInt, math.MinInt32, cut.MaxNodes, cut.MaxNodes + 1, math.MaxInt32, math.MaxInt32 + 1, math.MaxUint32, math.MaxInt - 1, math.MaxInt}

// checkErr fails unless err is the number want (0: nil), as errors.As finds it.
func checkErr(t *testing.T, what string, err error, want api.Errno) {
	t.Helper()
	if want == 0 {
		if err != nil {
			t.Fatalf("%s: error %v, want none", what, err)
		}
		return
	}
	var e api.Errno
	if !errors.As(err, &e) || e != want {
		t.Fatalf("%s: error %v, want %v", what, err, want)
	}
}

// check fails unless a call answered just that.
func check[T comparable](t *testing.T, what string, got T, err error, want T, wantErr api.Errno) {
	t.Helper()
	checkErr(t, what, err, wantErr)
	if got != want {
		t.Fatalf("%s: %v, want %v", what, got, want)
	}
}

func made(t *testing.T, n int) *cut.Forest {
	t.Helper()
	f, err := cut.New(n)
	checkErr(t, "New", err, 0)
	if f == nil {
		t.Fatalf("New(%d): nil beside no error", n)
	}
	return f
}

// chain links nodes one behind another.
func chain(t *testing.T, f *cut.Forest, nodes ...int) {
	t.Helper()
	for i, x := range nodes[1:] {
		checkErr(t, "Link", f.Link(nodes[i], x), 0)
	}
}

// woods are trees as plain lists: each node's value, and what it is linked to.
type woods struct {
	values []int64
	links  [][]int
}

func newWoods(n int) *woods {
	return &woods{make([]int64, n), make([][]int, n)}
}

// is tells whether there are such nodes.
func (w *woods) is(nodes ...int) bool {
	return !slices.ContainsFunc(nodes, func(x int) bool { return x < 0 || x >= len(w.links) })
}

// road is the road from a to b; nil, if there is none. No step leads to last,
// the one where it came from.
func (w *woods) road(a, b, last int) []int {
	if a == b {
		return []int{a}
	}
	for _, x := range w.links[a] {
		if x == last {
			continue
		}
		if rest := w.road(x, b, a); rest != nil {
			return append([]int{a}, rest...)
		}
	}
	return nil
}

func (w *woods) set(x int, v int64) api.Errno {
	if !w.is(x) {
		return api.ErrRange
	}
	w.values[x] = v
	return 0
}

func (w *woods) link(a, b int) api.Errno {
	if !w.is(a, b) {
		return api.ErrRange
	}
	if w.road(a, b, -1) != nil {
		return api.ErrSame
	}
	w.links[a] = append(w.links[a], b)
	w.links[b] = append(w.links[b], a)
	return 0
}

func (w *woods) cut(a, b int) api.Errno {
	if !w.is(a, b) {
		return api.ErrRange
	}
	if !slices.Contains(w.links[a], b) {
		return api.ErrApart
	}
	is := func(x int) func(int) bool { return func(y int) bool { return x == y } }
	w.links[a] = slices.DeleteFunc(w.links[a], is(b))
	w.links[b] = slices.DeleteFunc(w.links[b], is(a))
	return 0
}

// first is the first node of a road whose value none goes ahead of.
func (w *woods) first(road []int, less func(v, u int64) bool) int {
	best := 0
	for _, x := range road[1:] {
		if less(w.values[x], w.values[road[best]]) {
			best = slices.Index(road, x)
		}
	}
	return road[best]
}

// sum is the sum of a road's values, modulo 2^64.
func (w *woods) sum(road []int) int64 {
	var sum uint64
	for _, x := range road {
		sum += uint64(w.values[x])
	}
	return int64(sum)
}

// checkTwo fails unless of two nodes all is as the plain lists tell it.
func (w *woods) checkTwo(t *testing.T, f *cut.Forest, a, b int) {
	t.Helper()
	road := w.road(a, b, -1)
	same, err := f.Same(a, b)
	check(t, "Same", same, err, road != nil, 0)
	near, err := f.Near(a, b)
	check(t, "Near", near, err, len(road) == 2, 0)
	if road == nil {
		checkNoRoad(t, f, a, b, api.ErrApart)
		return
	}
	got, err := f.Len(a, b)
	check(t, "Len", got, err, len(road), 0)
	got, err = f.Least(a, b)
	check(t, "Least", got, err, w.first(road, func(v, u int64) bool { return v < u }), 0)
	got, err = f.Most(a, b)
	check(t, "Most", got, err, w.first(road, func(v, u int64) bool { return v > u }), 0)
	sum, err := f.Sum(a, b)
	check(t, "Sum", sum, err, w.sum(road), 0)
	checkRoad(t, f, a, b, road)
}

// checkAll fails unless all is as the plain lists tell it.
func (w *woods) checkAll(t *testing.T, f *cut.Forest) {
	t.Helper()
	for a := range w.links {
		for b := range w.links {
			w.checkTwo(t, f, a, b)
		}
	}
}

func checkRoad(t *testing.T, f *cut.Forest, a, b int, want []int) {
	t.Helper()
	list, err := f.Road(a, b)
	checkErr(t, "Road", err, 0)
	if !slices.Equal(list, want) {
		t.Fatalf("Road(%d, %d): %v, want %v", a, b, list, want)
	}
}

// checkNoRoad fails unless every question about a road answers that error.
func checkNoRoad(t *testing.T, f *cut.Forest, a, b int, want api.Errno) {
	t.Helper()
	for _, ask := range []func(int, int) (int, error){f.Len, f.Least, f.Most} {
		got, err := ask(a, b)
		check(t, "a question", got, err, 0, want)
	}
	sum, err := f.Sum(a, b)
	check(t, "Sum", sum, err, 0, want)
	list, err := f.Road(a, b)
	checkErr(t, "Road", err, want)
	if len(list) != 0 {
		t.Fatalf("Road(%d, %d): %v beside an error", a, b, list)
	}
}

// CU1: New.

func TestNew(t *testing.T) {
	for _, n := range []int{1, 2, 3, 20} {
		newWoods(n).checkAll(t, made(t, n))
	}
	for _, n := range []int{1 << 16, cut.MaxNodes - 1, cut.MaxNodes} {
		f := made(t, n)
		for _, x := range []int{n - 1, 0, 1, n / 2} {
			checkRoad(t, f, x, x, []int{x})
			sum, err := f.Sum(x, x)
			check(t, "Sum", sum, err, 0, 0)
		}
		same, err := f.Same(0, n-1)
		check(t, "Same of the first node and the last", same, err, false, 0)
		checkErr(t, "Link of the first node and the last", f.Link(0, n-1), 0)
		checkRoad(t, f, n-1, 0, []int{n - 1, 0})
		checkNone(t, f, n, n-1, api.ErrRange)
	}
}

func TestNewWrong(t *testing.T) {
	for _, n := range []int{0, -1, math.MinInt, math.MinInt32, cut.MaxNodes + 1, math.MaxInt32, 1<<32 + 1, math.MaxInt} {
		f, err := cut.New(n)
		checkErr(t, "New", err, api.ErrArg)
		if f != nil {
			t.Fatalf("New(%d): %v beside an error", n, f)
		}
	}
}

// To make a Forest takes no steps for each of its nodes, nor does what is done
// with its first ones.
func TestNewAtOnce(t *testing.T) {
	for range 20000 {
		f := made(t, cut.MaxNodes)
		chain(t, f, 0, 1, 2)
		checkRoad(t, f, 2, 0, []int{2, 1, 0})
	}
}

func TestMaxNodes(t *testing.T) {
	if cut.MaxNodes != 1<<23 {
		t.Fatalf("MaxNodes is %d", cut.MaxNodes)
	}
}

// CU1: Set, Link, Cut, Same, Near.

func TestExample(t *testing.T) {
	f := made(t, 3)
	checkErr(t, "Link", f.Link(0, 1), 0)
	checkErr(t, "Link", f.Link(1, 2), 0)
	checkErr(t, "Set", f.Set(1, -5), 0)
	x, err := f.Least(0, 2)
	check(t, "Least", x, err, 1, 0)
	x, err = f.Len(0, 2)
	check(t, "Len", x, err, 3, 0)
}

// A node's value is the last one set, wherever the node stands on a road, and
// whatever was linked since.
func TestSet(t *testing.T) {
	f, w := made(t, 6), newWoods(6)
	for step := range 6 {
		for x := range 6 {
			for _, v := range []int64{7, int64(x + step), -3, math.MinInt64, math.MaxInt64, int64(x*step%4) - 1} {
				checkErr(t, "Set", f.Set(x, v), w.set(x, v))
				w.checkTwo(t, f, x, x)
				w.checkTwo(t, f, 0, step)
			}
			w.checkAll(t, f)
		}
		checkErr(t, "Link", f.Link(step, (step+1)%6), w.link(step, (step+1)%6))
	}
}

// What is set of a node far from the last road's ends counts on the next one.
func TestSetWithin(t *testing.T) {
	const n = 40
	f, w := made(t, n), newWoods(n)
	for x := 1; x < n; x++ {
		checkErr(t, "Link", f.Link(x-1, x), w.link(x-1, x))
	}
	for i := range n {
		x := i * 7 % n
		v := int64(i*i%11) - 5
		checkErr(t, "Set", f.Set(x, v), w.set(x, v))
		w.checkTwo(t, f, 0, n-1)
		w.checkTwo(t, f, n-1, x)
		w.checkTwo(t, f, x, x/2)
	}
}

// Whichever nodes of two trees are named, and in whichever order.
func TestLink(t *testing.T) {
	for a := range 4 {
		for b := 4; b < 8; b++ {
			for _, two := range [][2]int{{a, b}, {b, a}} {
				f, w := made(t, 9), newWoods(9)
				for _, l := range [][2]int{{0, 1}, {2, 1}, {1, 3}, {7, 6}, {6, 5}, {4, 5}} {
					checkErr(t, "Link", f.Link(l[0], l[1]), w.link(l[0], l[1]))
				}
				checkErr(t, "Link", f.Link(two[0], two[1]), w.link(two[0], two[1]))
				w.checkAll(t, f)
			}
		}
	}
}

// Two of one tree, a node and itself too: nothing is changed.
func TestLinkSame(t *testing.T) {
	f, w := made(t, 7), newWoods(7)
	for _, l := range [][2]int{{0, 1}, {1, 2}, {1, 3}, {5, 4}} {
		checkErr(t, "Link", f.Link(l[0], l[1]), w.link(l[0], l[1]))
	}
	for _, tree := range [][]int{{0, 1, 2, 3}, {4, 5}, {6}} {
		for _, a := range tree {
			for _, b := range tree {
				checkErr(t, "Link of one tree", f.Link(a, b), api.ErrSame)
				w.checkAll(t, f)
			}
		}
	}
}

// Each link of a tree, told both ways; what hangs on each end stays with it.
func TestCut(t *testing.T) {
	links := [][2]int{{0, 1}, {2, 1}, {1, 3}, {3, 4}, {5, 3}, {4, 6}}
	for i := range links {
		for _, turned := range []bool{false, true} {
			f, w := made(t, 8), newWoods(8)
			for _, l := range links {
				checkErr(t, "Link", f.Link(l[0], l[1]), w.link(l[0], l[1]))
			}
			a, b := links[i][0], links[i][1]
			if turned {
				a, b = b, a
			}
			checkErr(t, "Cut", f.Cut(a, b), w.cut(a, b))
			w.checkAll(t, f)
			checkErr(t, "Cut once more", f.Cut(a, b), api.ErrApart)
			checkErr(t, "Cut once more, turned round", f.Cut(b, a), api.ErrApart)
			w.checkAll(t, f)
		}
	}
}

// Nodes of two trees, ones of one tree that others stand between, and a node and
// itself: nothing is changed.
func TestCutApart(t *testing.T) {
	f, w := made(t, 7), newWoods(7)
	for _, l := range [][2]int{{0, 1}, {1, 2}, {2, 3}, {2, 4}} {
		checkErr(t, "Link", f.Link(l[0], l[1]), w.link(l[0], l[1]))
	}
	for a := range 7 {
		for b := range 7 {
			if len(w.road(a, b, -1)) == 2 {
				continue
			}
			checkErr(t, "Cut of nodes that are not linked", f.Cut(a, b), api.ErrApart)
			near, err := f.Near(a, b)
			check(t, "Near", near, err, false, 0)
			w.checkAll(t, f)
		}
	}
}

// A node with many links, each of which is cut and laid again.
func TestStar(t *testing.T) {
	const n = 30
	f, w := made(t, n), newWoods(n)
	for x := 1; x < n; x++ {
		checkErr(t, "Set", f.Set(x, int64(x%5)), w.set(x, int64(x%5)))
		checkErr(t, "Link", f.Link(x, 0), w.link(x, 0))
	}
	w.checkAll(t, f)
	for x := 1; x < n; x++ {
		checkErr(t, "Cut", f.Cut(0, x), w.cut(0, x))
		w.checkTwo(t, f, x, n-x)
		w.checkTwo(t, f, 0, x)
		if x%3 > 0 {
			checkErr(t, "Link", f.Link(x, x-1), w.link(x, x-1))
		}
	}
	w.checkAll(t, f)
}

// CU2: Len, Sum, Least, Most, Road.

// Each question at the ends, in the midst, beside branches, of a node and
// itself.
func TestQuestions(t *testing.T) {
	f := made(t, 9)
	chain(t, f, 4, 0, 7, 2)
	chain(t, f, 7, 1, 3)
	chain(t, f, 5, 6)
	for x, v := range []int64{5, 2, -1, 9, 9, 3, 3, -1, 0} {
		checkErr(t, "Set", f.Set(x, v), 0)
	}
	for _, c := range []struct {
		road        []int
		sum         int64
		least, most int
	}{
		{[]int{4, 0, 7, 2}, 12, 7, 4},
		{[]int{2, 7, 0, 4}, 12, 2, 4},
		{[]int{4, 0, 7, 1, 3}, 24, 7, 4},
		{[]int{3, 1, 7, 0, 4}, 24, 7, 3},
		{[]int{2, 7, 1, 3}, 9, 2, 3},
		{[]int{3, 1, 7, 2}, 9, 7, 3},
		{[]int{0, 7}, 4, 7, 0},
		{[]int{5, 6}, 6, 5, 5},
		{[]int{6, 5}, 6, 6, 6},
		{[]int{4}, 9, 4, 4},
		{[]int{7}, -1, 7, 7},
		{[]int{8}, 0, 8, 8},
	} {
		a, b := c.road[0], c.road[len(c.road)-1]
		got, err := f.Len(a, b)
		check(t, "Len", got, err, len(c.road), 0)
		sum, err := f.Sum(a, b)
		check(t, "Sum", sum, err, c.sum, 0)
		got, err = f.Least(a, b)
		check(t, "Least", got, err, c.least, 0)
		got, err = f.Most(a, b)
		check(t, "Most", got, err, c.most, 0)
		checkRoad(t, f, a, b, c.road)
	}
	for _, two := range [][2]int{{4, 5}, {6, 7}, {8, 0}, {3, 8}, {8, 6}} {
		checkNoRoad(t, f, two[0], two[1], api.ErrApart)
	}
}

// Of several nodes of one value the first one of the road is told, whatever the
// other values are.
func TestFirst(t *testing.T) {
	const n = 5
	f, w := made(t, n), newWoods(n)
	for x := 1; x < n; x++ {
		checkErr(t, "Link", f.Link(x-1, x), w.link(x-1, x))
	}
	for k := range 3 * 3 * 3 * 3 * 3 {
		for x, rest := 0, k; x < n; x, rest = x+1, rest/3 {
			v := []int64{math.MinInt64, 0, math.MaxInt64}[rest%3]
			checkErr(t, "Set", f.Set(x, v), w.set(x, v))
		}
		w.checkTwo(t, f, 0, n-1)
		w.checkTwo(t, f, n-1, 0)
		w.checkTwo(t, f, 1, n-1)
	}
}

// Sums are told modulo 2^64, as a number with a sign.
func TestSumWraps(t *testing.T) {
	f := made(t, 4)
	chain(t, f, 0, 1, 2, 3)
	for _, c := range []struct {
		values [4]int64
		want   int64
	}{
		{[4]int64{math.MaxInt64, 1, 0, 0}, math.MinInt64},
		{[4]int64{math.MinInt64, 0, 0, -1}, math.MaxInt64},
		{[4]int64{math.MinInt64, math.MinInt64, 0, 5}, 5},
		{[4]int64{math.MaxInt64, math.MaxInt64, math.MaxInt64, math.MaxInt64}, -4},
		{[4]int64{math.MinInt64, math.MinInt64, math.MinInt64, math.MinInt64}, 0},
		{[4]int64{math.MinInt64, math.MaxInt64, math.MinInt64, math.MaxInt64}, -2},
	} {
		for x, v := range c.values {
			checkErr(t, "Set", f.Set(x, v), 0)
		}
		for _, two := range [][2]int{{0, 3}, {3, 0}} {
			sum, err := f.Sum(two[0], two[1])
			check(t, "Sum", sum, err, c.want, 0)
		}
	}
}

// Road's answer is new memory, spare room too.
func TestRoadAlone(t *testing.T) {
	for _, want := range [][]int{{4, 3, 2}, {2, 3, 4}, {3, 2}, {2}, {0}} {
		f := made(t, 5)
		chain(t, f, 4, 3, 2)
		from, to := want[0], want[len(want)-1]
		a, _ := f.Road(from, to)
		b, _ := f.Road(from, to)
		a = a[:cap(a)]
		for i := range a {
			a[i] = -7
		}
		if !slices.Equal(b, want) {
			t.Fatalf("Road behind a write into another answer: %v, want %v", b, want)
		}
		checkRoad(t, f, 4, 2, []int{4, 3, 2})
		checkErr(t, "Cut", f.Cut(3, 2), 0)
		checkErr(t, "Link", f.Link(4, 0), 0)
		checkRoad(t, f, 0, 3, []int{0, 4, 3})
		if !slices.Equal(b, want) {
			t.Fatalf("Road behind a change: %v, want %v", b, want)
		}
		if slices.ContainsFunc(a, func(v int) bool { return v != -7 }) {
			t.Fatalf("an answer of Road was changed: %v", a)
		}
	}
}

// CU3.

// grown makes a tree of n nodes by a seed, each with one of few values.
func grown(t *testing.T, n int, seed int64) (*cut.Forest, *woods) {
	t.Helper()
	r := rand.New(rand.NewSource(seed))
	f, w := made(t, n), newWoods(n)
	for x := range n {
		v := int64(r.Intn(4)) - 2
		checkErr(t, "Set", f.Set(x, v), w.set(x, v))
		if x > 0 {
			y := r.Intn(x)
			checkErr(t, "Link", f.Link(x, y), w.link(x, y))
		}
	}
	return f, w
}

func TestTurnedRound(t *testing.T) {
	for seed := range int64(20) {
		f, _ := grown(t, 12, seed)
		for a := range 12 {
			for b := range 12 {
				there, err := f.Road(a, b)
				checkErr(t, "Road", err, 0)
				slices.Reverse(there)
				checkRoad(t, f, b, a, there)
				sum, err := f.Sum(a, b)
				checkErr(t, "Sum", err, 0)
				back, err := f.Sum(b, a)
				check(t, "Sum, turned round", back, err, sum, 0)
				size, err := f.Len(b, a)
				check(t, "Len, turned round", size, err, len(there), 0)
			}
		}
	}
}

// What was cut, and linked again, is as it was; and what was linked, and cut
// again.
func TestLinkedAndCut(t *testing.T) {
	for seed := range int64(8) {
		f, w := grown(t, 9, seed)
		for a := range 9 {
			for _, b := range slices.Clone(w.links[a]) {
				checkErr(t, "Cut", f.Cut(a, b), 0)
				checkErr(t, "Link", f.Link(a, b), 0)
				w.checkAll(t, f)
				checkErr(t, "Cut", f.Cut(a, b), w.cut(a, b))
				for c := range 9 {
					if w.road(a, c, -1) != nil {
						checkErr(t, "Link", f.Link(b, c), 0)
						checkErr(t, "Cut", f.Cut(c, b), 0)
					}
				}
				w.checkAll(t, f)
				checkErr(t, "Link, the other way round", f.Link(b, a), w.link(b, a))
				w.checkAll(t, f)
			}
		}
	}
}

// CU1, CU2: a node that is none, and a nil Forest.

// checkNone fails unless every call on a node answers that error; other is a
// node that is.
func checkNone(t *testing.T, f *cut.Forest, x, other int, want api.Errno) {
	t.Helper()
	checkErr(t, "Set", f.Set(x, 1), want)
	for _, y := range []int{x, other} {
		for _, two := range [][2]int{{x, y}, {y, x}} {
			checkErr(t, "Link", f.Link(two[0], two[1]), want)
			checkErr(t, "Cut", f.Cut(two[0], two[1]), want)
			same, err := f.Same(two[0], two[1])
			check(t, "Same", same, err, false, want)
			near, err := f.Near(two[0], two[1])
			check(t, "Near", near, err, false, want)
			checkNoRoad(t, f, two[0], two[1], want)
		}
	}
}

func TestNoNode(t *testing.T) {
	for _, n := range []int{1, 2, 3, 16} {
		f, w := made(t, n), newWoods(n)
		for range 2 {
			for _, x := range append([]int{n, n + 1, 2*n + 1}, far...) {
				checkNone(t, f, x, n-1, api.ErrRange)
				checkNone(t, f, x, 0, api.ErrRange)
			}
			w.checkAll(t, f)
			for x := range n - 1 {
				checkErr(t, "Link", f.Link(n-1, x), w.link(n-1, x))
			}
			checkErr(t, "Set", f.Set(n/2, 3), w.set(n/2, 3))
		}
	}
	f := made(t, cut.MaxNodes)
	for _, x := range far {
		checkNone(t, f, x, cut.MaxNodes-1, api.ErrRange)
	}
}

func TestNil(t *testing.T) {
	var f *cut.Forest
	for _, x := range append([]int{0, 1, cut.MaxNodes - 1}, far...) {
		checkNone(t, f, x, 0, api.ErrArg)
	}
}

// CU1 to CU3, and rule 4.

// steps are all that can be done with n nodes.
func steps(n int) []func(t *testing.T, f *cut.Forest, w *woods) {
	var out []func(t *testing.T, f *cut.Forest, w *woods)
	for a := range n {
		for b := range n {
			out = append(out, func(t *testing.T, f *cut.Forest, w *woods) {
				checkErr(t, "Link", f.Link(a, b), w.link(a, b))
			}, func(t *testing.T, f *cut.Forest, w *woods) {
				checkErr(t, "Cut", f.Cut(a, b), w.cut(a, b))
			})
		}
		out = append(out, func(t *testing.T, f *cut.Forest, w *woods) {
			checkErr(t, "Set", f.Set(a, 1), w.set(a, 1))
		})
	}
	return out
}

// All ways of some steps with few nodes; nothing is asked ahead of the last one.
func TestEachWay(t *testing.T) {
	eachWay(t, 3, 3, [][2]int{{0, 1}})
	eachWay(t, 4, 3, [][2]int{{0, 1}, {3, 1}})
	eachWay(t, 5, 2, [][2]int{{0, 1}, {2, 1}, {3, 2}, {4, 2}})
}

func eachWay(t *testing.T, n, many int, links [][2]int) {
	all := steps(n)
	way := make([]int, many)
	for {
		f, w := made(t, n), newWoods(n)
		for _, l := range links {
			checkErr(t, "Link", f.Link(l[0], l[1]), w.link(l[0], l[1]))
		}
		for _, i := range way {
			all[i](t, f, w)
		}
		w.checkAll(t, f)
		i := 0
		for ; i < many && way[i] == len(all)-1; i++ {
			way[i] = 0
		}
		if i == many {
			return
		}
		way[i]++
	}
}

// pair is a Forest, and one that is handled alike, but is asked far less often:
// what was asked must not be seen later on.
type pair struct{ often, seldom *cut.Forest }

// step does one step on both, and on the plain lists.
func (p pair) step(t *testing.T, r *rand.Rand, w *woods, link int) {
	t.Helper()
	n := len(w.links)
	a, b := r.Intn(n+2)-1, r.Intn(n+2)-1
	v := int64(r.Intn(7)) - 3
	var do func(*cut.Forest) error
	var want api.Errno
	switch k := r.Intn(16); {
	case k < link:
		do, want = func(f *cut.Forest) error { return f.Link(a, b) }, w.link(a, b)
	case k < 13:
		// Of two at random few are linked.
		if w.is(a) && len(w.links[a]) > 0 && k > 3 {
			b = w.links[a][r.Intn(len(w.links[a]))]
		}
		do, want = func(f *cut.Forest) error { return f.Cut(a, b) }, w.cut(a, b)
	default:
		do, want = func(f *cut.Forest) error { return f.Set(a, v) }, w.set(a, v)
	}
	checkErr(t, "a step", do(p.often), want)
	checkErr(t, "a step", do(p.seldom), want)
}

func TestAsLists(t *testing.T) {
	for _, n := range []int{1, 2, 3, 5, 17, 40, 100} {
		r := rand.New(rand.NewSource(int64(n)))
		p, w := pair{made(t, n), made(t, n)}, newWoods(n)
		for step := range 4000 {
			// Phases of few great trees, and of many small ones.
			p.step(t, r, w, 6+step/500%2*6)
			w.checkTwo(t, p.often, r.Intn(n), r.Intn(n))
			if step%500 == 499 {
				w.checkAll(t, p.often)
				w.checkAll(t, p.seldom)
			}
		}
	}
}

// Of great trees each call but Road needs few steps: a walk over a road, or a
// tree, would take some hours.
func TestAtOnce(t *testing.T) {
	const n = 1 << 17
	f := made(t, n)
	for x := 1; x < n; x++ {
		checkErr(t, "Link", f.Link(x-1, x), 0)
		checkErr(t, "Set", f.Set(x, int64(x)), 0)
	}
	for i := range 1 << 15 {
		a, b := i*7%(n/2), n/2+i*5%(n/2)
		sum, err := f.Sum(b, a)
		check(t, "Sum", sum, err, int64(a+b)*int64(b-a+1)/2, 0)
		got, err := f.Least(b, a)
		check(t, "Least", got, err, a, 0)
		got, err = f.Most(a, b)
		check(t, "Most", got, err, b, 0)
		checkErr(t, "Set", f.Set(n/2, int64(n+i)), 0)
		got, err = f.Most(a, b)
		check(t, "Most", got, err, n/2, 0)
		checkErr(t, "Set", f.Set(n/2, n/2), 0)
		checkErr(t, "Cut", f.Cut(b, b-1), 0)
		same, err := f.Same(a, b)
		check(t, "Same", same, err, false, 0)
		checkErr(t, "Link of one tree", f.Link(0, b-1), api.ErrSame)
		near, err := f.Near(a, b)
		check(t, "Near", near, err, false, 0)
		checkErr(t, "Link", f.Link(b, a), 0)
		size, err := f.Len(b-1, b)
		check(t, "Len", size, err, b-a+1, 0)
		checkErr(t, "Cut", f.Cut(a, b), 0)
		checkErr(t, "Link", f.Link(b-1, b), 0)
	}
}

// To go over all nodes in their order is what makes bad search trees slow.
func TestAtOnceInOrder(t *testing.T) {
	const n = 1 << 18
	f := made(t, n)
	for x := 1; x < n; x++ {
		checkErr(t, "Link", f.Link(x-1, x), 0)
	}
	for pass := range 3 {
		for x := range n {
			checkErr(t, "Set", f.Set(x, int64(pass+x)), 0)
		}
		got, err := f.Most(0, n-1)
		check(t, "Most", got, err, n-1, 0)
	}
}

// A node that nothing but its value brings up, found over and over.
func TestAtOnceFound(t *testing.T) {
	const n, x = 1 << 19, 2
	for _, v := range []int64{-1, 1} {
		f := made(t, n)
		checkErr(t, "Set", f.Set(x, v), 0)
		for y := 1; y < n; y++ {
			checkErr(t, "Link", f.Link(y-1, y), 0)
		}
		ask := f.Least
		if v > 0 {
			ask = f.Most
		}
		for range n {
			got, err := ask(0, n-1)
			check(t, "the node found", got, err, x, 0)
		}
	}
}

// A great tree of many short branches, whose nodes are asked for in turn.
func TestAtOnceBranched(t *testing.T) {
	const n = 1 << 17
	f := made(t, n)
	depth := make([]int, n)
	for x := 1; x < n; x++ {
		up := (x - 1) / 2
		if x >= n/2 {
			up = 0
		}
		checkErr(t, "Link", f.Link(up, x), 0)
		depth[x] = depth[up] + 1
	}
	for i := range n {
		x := i * 77773 % n
		size, err := f.Len(0, x)
		check(t, "Len", size, err, depth[x]+1, 0)
		size, err = f.Len(n-1, x)
		if x != n-1 {
			check(t, "Len", size, err, depth[x]+2, 0)
		}
	}
}

// One road of the most nodes there may be.
func TestMostNodes(t *testing.T) {
	const n = cut.MaxNodes
	f := made(t, n)
	for x := 1; x < n; x++ {
		if err := f.Link(x, x-1); err != nil {
			t.Fatalf("Link(%d, %d): %v", x, x-1, err)
		}
	}
	checkErr(t, "Link of one tree", f.Link(0, n-1), api.ErrSame)
	checkErr(t, "Set", f.Set(n/2, -1), 0)
	checkErr(t, "Set", f.Set(n-1, math.MaxInt64), 0)
	checkErr(t, "Set", f.Set(0, math.MaxInt64), 0)
	got, err := f.Len(0, n-1)
	check(t, "Len", got, err, n, 0)
	got, err = f.Least(0, n-1)
	check(t, "Least", got, err, n/2, 0)
	got, err = f.Most(n-1, 0)
	check(t, "Most", got, err, n-1, 0)
	sum, err := f.Sum(0, n-1)
	check(t, "Sum", sum, err, -3, 0)
	list, err := f.Road(n-1, 0)
	checkErr(t, "Road", err, 0)
	if len(list) != n {
		t.Fatalf("Road: %d nodes, want %d", len(list), n)
	}
	for k, x := range list {
		if x != n-1-k {
			t.Fatalf("Road: %d at %d", x, k)
		}
	}
	checkErr(t, "Cut", f.Cut(n/2, n/2-1), 0)
	got, err = f.Len(n-1, n/2)
	check(t, "Len", got, err, n/2, 0)
	same, err := f.Same(0, n-1)
	check(t, "Same", same, err, false, 0)
}
