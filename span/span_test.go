package span_test

import (
	"cmp"
	"errors"
	"math"
	"math/rand"
	"slices"
	"testing"

	"plait/api"
	"plait/span"
)

// most is how many vertices, and how many edges, there are at most.
const most = 1 << 20

// far are numbers that are no vertex.
var far = []int{-1, -2, math.MinInt, math.MinInt32, -1 << 32, most, most + 1, math.MaxInt32, math.MaxUint32, 1 << 32, 1<<32 + 1, math.MaxInt - 1, math.MaxInt}

// wrongMany are numbers of vertices that may not be.
var wrongMany = []int{-1, -2, -most, math.MinInt32, -1 << 32, math.MinInt, most + 1, most + 2, 2 * most, math.MaxInt32, 1 << 32, 1<<32 + 1, math.MaxInt}

// call is Tree or Most.
type call func(int, []span.Edge) ([]bool, int64, error)

// checkErr fails unless err is the number want (0: nil), as errors.As finds it.
func checkErr(t *testing.T, what string, err error, want api.Errno) {
	t.Helper()
	if want == 0 {
		if err != nil {
			t.Fatalf("%s: error %v, want none", what, err)
		}
		return
	}
	var e api.Errno
	if !errors.As(err, &e) || e != want {
		t.Fatalf("%s: error %v, want %v", what, err, want)
	}
}

// checkMarks fails unless Tree or Most answered just these marks and that sum.
func checkMarks(t *testing.T, what string, got []bool, sum int64, err error, want []bool, wantSum int64) {
	t.Helper()
	checkErr(t, what, err, 0)
	if !slices.Equal(got, want) || sum != wantSum {
		t.Fatalf("%s: %v, %d, want %v, %d", what, got, sum, want, wantSum)
	}
}

// checkWrong fails unless all three calls answer just that error, whatever the
// marks.
func checkWrong(t *testing.T, n int, l []span.Edge, want api.Errno) {
	t.Helper()
	for _, f := range []call{span.Tree, span.Most} {
		marks, sum, err := f(n, l)
		checkErr(t, "Tree or Most", err, want)
		if len(marks) != 0 || sum != 0 {
			t.Fatalf("beside error %v: %d marks, %d", err, len(marks), sum)
		}
	}
	for _, many := range []int{0, 1, len(l), len(l) + 1} {
		is, err := span.Least(n, l, make([]bool, many))
		checkErr(t, "Least", err, want)
		if is {
			t.Fatalf("beside error %v: true", err)
		}
	}
}

// checkLeast fails unless Least answered just that.
func checkLeast(t *testing.T, n int, l []span.Edge, marks []bool, want bool, wantErr api.Errno) {
	t.Helper()
	is, err := span.Least(n, l, marks)
	checkErr(t, "Least", err, wantErr)
	if is != want {
		t.Fatalf("Least(%d, %v, %v): %v, want %v", n, l, marks, is, want)
	}
}

// The plain ones go over the lists anew for each edge.

func plainCheck(n int, l []span.Edge) api.Errno {
	for _, e := range l {
		for _, x := range []int{e.A, e.B} {
			if x < 0 || x > n-1 {
				return api.ErrRange
			}
		}
	}
	return 0
}

// plainParts is which part each vertex is of, if those edges that are marked
// join them.
func plainParts(n int, l []span.Edge, marks []bool) []int {
	part := make([]int, n)
	for x := range part {
		part[x] = x
	}
	for i, e := range l {
		if !marks[i] {
			continue
		}
		from, to := part[e.A], part[e.B]
		for x := range part {
			if part[x] == from {
				part[x] = to
			}
		}
	}
	return part
}

// plainLess tells whether the edge at one place is less than that at another.
func plainLess(l []span.Edge, a, b int) bool {
	return l[a].W < l[b].W || l[a].W == l[b].W && a < b
}

// plainGrow picks the first edge of all that are left, over and over, first
// telling which of two that is.
func plainGrow(n int, l []span.Edge, first func(a, b int) bool) ([]bool, int64) {
	marks, done, sum := make([]bool, len(l)), make([]bool, len(l)), int64(0)
	for range l {
		at := slices.Index(done, false)
		for i := range l {
			if !done[i] && first(i, at) {
				at = i
			}
		}
		done[at] = true
		if part := plainParts(n, l, marks); part[l[at].A] != part[l[at].B] {
			marks[at] = true
			sum += int64(l[at].W)
		}
	}
	return marks, sum
}

func plainTree(n int, l []span.Edge) ([]bool, int64) {
	return plainGrow(n, l, func(a, b int) bool { return plainLess(l, a, b) })
}

func plainMost(n int, l []span.Edge) ([]bool, int64) {
	return plainGrow(n, l, func(a, b int) bool { return plainLess(l, b, a) })
}

// eachEdges goes over all lists of so many edges with ends from low to high,
// and these weights.
func eachEdges(many, low, high int, weights ...int32) func(yield func([]span.Edge) bool) {
	var all []span.Edge
	for a := low; a <= high; a++ {
		for b := low; b <= high; b++ {
			for _, w := range weights {
				all = append(all, span.Edge{A: a, B: b, W: w})
			}
		}
	}
	return func(yield func([]span.Edge) bool) {
		if many > 0 && len(all) == 0 {
			return
		}
		at, l := make([]int, many), make([]span.Edge, many)
		for {
			for i, k := range at {
				l[i] = all[k]
			}
			if !yield(l) {
				return
			}
			i := 0
			for ; i < many && at[i] == len(all)-1; i++ {
				at[i] = 0
			}
			if i == many {
				return
			}
			at[i]++
		}
	}
}

// eachMarks goes over all marks of so many edges.
func eachMarks(many int) func(yield func([]bool) bool) {
	return func(yield func([]bool) bool) {
		for bits := range 1 << many {
			marks := make([]bool, many)
			for i := range marks {
				marks[i] = bits>>i&1 == 1
			}
			if !yield(marks) {
				return
			}
		}
	}
}

// anyEdges is so many edges of n vertices, with weights from -spread to spread.
func anyEdges(r *rand.Rand, n, many, spread int) []span.Edge {
	l := make([]span.Edge, many)
	for i := range l {
		l[i] = span.Edge{A: r.Intn(n), B: r.Intn(n), W: int32(r.Intn(2*spread+1) - spread)}
	}
	return l
}

// checkOne fails unless all three calls answer what the plain ones do.
func checkOne(t *testing.T, n int, l []span.Edge) {
	t.Helper()
	if want := plainCheck(n, l); want != 0 {
		checkWrong(t, n, l, want)
		return
	}
	tree, wantSum := plainTree(n, l)
	marks, sum, err := span.Tree(n, l)
	checkMarks(t, "Tree", marks, sum, err, tree, wantSum)
	greatest, wantSum := plainMost(n, l)
	marks, sum, err = span.Most(n, l)
	checkMarks(t, "Most", marks, sum, err, greatest, wantSum)
	checkLeast(t, n, l, tree, true, 0)
	checkLeast(t, n, l, greatest, slices.Equal(tree, greatest), 0)
}

// The chapter's example.
func TestExample(t *testing.T) {
	l := []span.Edge{{0, 1, 1}, {1, 2, 2}, {2, 0, 3}}
	marks, sum, err := span.Tree(3, l)
	checkMarks(t, "Tree", marks, sum, err, []bool{true, true, false}, 3)
	marks, sum, err = span.Most(3, l)
	checkMarks(t, "Most", marks, sum, err, []bool{false, true, true}, 5)
	checkLeast(t, 3, l, []bool{true, true, false}, true, 0)
	checkLeast(t, 3, l, []bool{true, false, true}, false, 0)
}

// Some answers written out, so that the plain ones above are held to something:
// a loop, edges side by side, two components, a vertex alone, weights below 0.
func TestWrittenOut(t *testing.T) {
	l := []span.Edge{{0, 0, -9}, {0, 1, 4}, {1, 0, 4}, {1, 2, -3}, {2, 0, 4}, {4, 5, 7}, {5, 4, -7}}
	marks, sum, err := span.Tree(7, l)
	checkMarks(t, "Tree", marks, sum, err, []bool{false, true, false, true, false, false, true}, -6)
	marks, sum, err = span.Most(7, l)
	checkMarks(t, "Most", marks, sum, err, []bool{false, false, true, false, true, true, false}, 15)
}

// SP1: where weights are the same, Tree takes those of the lower places, and
// Most those of the higher ones.
func TestSameWeights(t *testing.T) {
	for _, w := range []int32{0, 5, -5, math.MinInt32, math.MaxInt32} {
		l := []span.Edge{{0, 1, w}, {1, 2, w}, {2, 0, w}, {0, 1, w}}
		marks, sum, err := span.Tree(3, l)
		checkMarks(t, "Tree", marks, sum, err, []bool{true, true, false, false}, 2*int64(w))
		marks, sum, err = span.Most(3, l)
		checkMarks(t, "Most", marks, sum, err, []bool{false, false, true, true}, 2*int64(w))
	}
	// So many that a sort that is not held to the places would mix them.
	many := make([]span.Edge, 5000)
	for i := range many {
		many[i] = span.Edge{A: i % 2, B: 1 - i%2, W: int32(i % 3)}
	}
	marks, sum, err := span.Tree(2, many)
	checkErr(t, "Tree", err, 0)
	if slices.Index(marks, true) != 0 || slices.Contains(marks[1:], true) || sum != 0 {
		t.Fatalf("Tree: the first mark at %d, sum %d", slices.Index(marks, true), sum)
	}
	marks, sum, err = span.Most(2, many)
	checkErr(t, "Most", err, 0)
	// The last place of an edge of weight 2.
	const last = 4997
	if slices.Index(marks, true) != last || slices.Contains(marks[last+1:], true) || sum != 2 {
		t.Fatalf("Most: the first mark at %d, sum %d", slices.Index(marks, true), sum)
	}
}

// SP1: the least and the greatest weights there are, whose difference is no
// int32, and sums that are none.
func TestGreatWeights(t *testing.T) {
	l := []span.Edge{{0, 1, math.MaxInt32}, {1, 2, math.MinInt32}, {2, 0, 0}, {2, 1, math.MaxInt32}, {1, 0, math.MinInt32}, {0, 2, math.MaxInt32}, {0, 2, -1}}
	marks, sum, err := span.Tree(3, l)
	checkMarks(t, "Tree", marks, sum, err, []bool{false, true, false, false, true, false, false}, 2*math.MinInt32)
	marks, sum, err = span.Most(3, l)
	checkMarks(t, "Most", marks, sum, err, []bool{false, false, false, true, false, true, false}, 2*math.MaxInt32)
	for _, w := range []int32{math.MinInt32, math.MaxInt32} {
		road := make([]span.Edge, most-1)
		for i := range road {
			road[i] = span.Edge{A: i, B: i + 1, W: w}
		}
		for _, f := range []call{span.Tree, span.Most} {
			marks, sum, err := f(most, road)
			checkErr(t, "Tree or Most", err, 0)
			if slices.Contains(marks, false) || sum != (most-1)*int64(w) {
				t.Fatalf("a road of %d: sum %d", w, sum)
			}
		}
	}
}

// SP1, SP2: all lists of few edges.
func TestEachEdges(t *testing.T) {
	for n := range 4 {
		for many := range 4 {
			for l := range eachEdges(many, 0, n-1, -1, 0, 1) {
				checkOne(t, n, l)
			}
		}
	}
	for l := range eachEdges(5, 0, 1, 3, 4) {
		checkOne(t, 2, l)
	}
	for l := range eachEdges(3, 0, 3, 0, 1) {
		checkOne(t, 4, l)
	}
}

// SP1: all lists of few edges, of which some have ends that are no vertex.
func TestEachRange(t *testing.T) {
	for n := range 4 {
		for many := range 3 {
			for l := range eachEdges(many, -1, n, 7) {
				checkOne(t, n, l)
			}
		}
	}
}

// SP1: an end that is no vertex, either one, at each place.
func TestRange(t *testing.T) {
	for _, n := range []int{1, 2, 5} {
		for i := range 4 {
			for _, x := range append([]int{n, n + 1, -n}, far...) {
				for _, wrong := range []span.Edge{{A: x, B: 0}, {A: n - 1, B: x}, {A: x, B: x}} {
					l := make([]span.Edge, 4)
					l[i] = wrong
					checkWrong(t, n, l, api.ErrRange)
				}
			}
		}
	}
	for _, x := range far {
		checkWrong(t, most, []span.Edge{{A: most - 1, B: x}}, api.ErrRange)
		checkWrong(t, most, []span.Edge{{A: x, B: most - 1}}, api.ErrRange)
	}
}

// SP1: no vertices, and no edges; nil and the empty list are the same.
func TestNothing(t *testing.T) {
	for _, n := range []int{0, 1, 2, most} {
		for _, l := range [][]span.Edge{nil, {}} {
			for _, f := range []call{span.Tree, span.Most} {
				marks, sum, err := f(n, l)
				checkMarks(t, "Tree or Most", marks, sum, err, nil, 0)
			}
			checkLeast(t, n, l, nil, true, 0)
			checkLeast(t, n, l, []bool{}, true, 0)
			checkLeast(t, n, l, []bool{false}, false, api.ErrArg)
		}
	}
	checkWrong(t, 0, []span.Edge{{}}, api.ErrRange)
}

// SP1: numbers of vertices that may not be, whatever the edges: ahead of all
// other errors.
func TestWrongMany(t *testing.T) {
	long := make([]span.Edge, most+1)
	for _, n := range wrongMany {
		for _, l := range [][]span.Edge{nil, {}, {{0, 0, 1}}, {{0, 1, 1}}, {{-1, n, 1}}, long} {
			checkWrong(t, n, l, api.ErrArg)
		}
	}
}

// SP1: more edges than may be, ahead of ends that are no vertex; as many as may
// be are right.
func TestLong(t *testing.T) {
	long := make([]span.Edge, most+1)
	for _, n := range []int{0, 1, 2, most} {
		checkWrong(t, n, long, api.ErrLong)
	}
	for _, f := range []call{span.Tree, span.Most} {
		marks, sum, err := f(1, long[:most])
		checkErr(t, "Tree or Most", err, 0)
		if len(marks) != most || slices.Contains(marks, true) || sum != 0 {
			t.Fatalf("loops: %d marks, sum %d", len(marks), sum)
		}
	}
	checkLeast(t, 1, long[:most], make([]bool, most), true, 0)
	checkLeast(t, 1, long[:most], make([]bool, most+1), false, api.ErrArg)
	long[most].A = -1
	checkWrong(t, 1, long, api.ErrLong)
	checkWrong(t, 1, long[1:], api.ErrRange)
}

// SP2: all marks of few edges: those of Tree alone are right, though others may
// be of one sum with them.
func TestLeast(t *testing.T) {
	for n := range 4 {
		for many := range 4 {
			for l := range eachEdges(many, 0, n-1, 1, 2) {
				tree, _ := plainTree(n, l)
				for marks := range eachMarks(many) {
					checkLeast(t, n, l, marks, slices.Equal(marks, tree), 0)
				}
			}
		}
	}
}

// SP2: not as many marks as edges.
func TestLeastManyMarks(t *testing.T) {
	l := []span.Edge{{0, 1, 1}, {1, 2, 2}, {2, 0, 3}}
	for many := range 8 {
		marks := make([]bool, many)
		for i := range marks {
			marks[i] = i < 2
		}
		if many == len(l) {
			checkLeast(t, 3, l, marks, true, 0)
		} else {
			checkLeast(t, 3, l, marks, false, api.ErrArg)
		}
	}
	checkLeast(t, 3, l, nil, false, api.ErrArg)
}

// SP3.

// forest tells whether marks close no ring, and join all that all edges join.
func forest(n int, l []span.Edge, marks []bool) bool {
	all := make([]bool, len(l))
	for i := range all {
		all[i] = true
	}
	part, whole := plainParts(n, l, marks), plainParts(n, l, all)
	for a := range n {
		for b := range n {
			if (part[a] == part[b]) != (whole[a] == whole[b]) {
				return false
			}
		}
	}
	// Edges that close no ring are as many as the parts that they made fewer.
	slices.Sort(part)
	many := 0
	for _, mark := range marks {
		if mark {
			many++
		}
	}
	return n-many == len(slices.Compact(part))
}

// sumOf is the sum of the marked edges' weights.
func sumOf(l []span.Edge, marks []bool) int64 {
	sum := int64(0)
	for i, mark := range marks {
		if mark {
			sum += int64(l[i].W)
		}
	}
	return sum
}

// greatest tells whether the edge at a place is greater than all others of the
// ring that it closes with marked ones: without any that is not less, they
// join its ends.
func greatest(n int, l []span.Edge, marks []bool, at int, less func(a, b int) bool) bool {
	lower := slices.Clone(marks)
	for i := range lower {
		lower[i] = marks[i] && less(i, at)
	}
	part := plainParts(n, l, lower)
	return part[l[at].A] == part[l[at].B]
}

// checkLaw fails unless marks are a forest, each other edge closes a ring on
// which it is the greatest, and no other forest's sum is less: all that turned
// round, for Most.
func checkLaw(t *testing.T, n int, l []span.Edge, f call, sign int64) {
	t.Helper()
	marks, sum, err := f(n, l)
	checkErr(t, "Tree or Most", err, 0)
	if len(marks) != len(l) || !forest(n, l, marks) || sum != sumOf(l, marks) {
		t.Fatalf("%d, %v: %v, %d: no forest of that sum", n, l, marks, sum)
	}
	less := func(a, b int) bool {
		if sign < 0 {
			a, b = b, a
		}
		return plainLess(l, a, b)
	}
	for i, mark := range marks {
		if !mark && !greatest(n, l, marks, i, less) {
			t.Fatalf("%d, %v: %v: the edge at %d is not the greatest on its ring", n, l, marks, i)
		}
	}
	if len(l) > 10 {
		return
	}
	for other := range eachMarks(len(l)) {
		if sign*sumOf(l, other) < sign*sum && forest(n, l, other) {
			t.Fatalf("%d, %v: %v has sum %d, %v has %d", n, l, marks, sum, other, sumOf(l, other))
		}
	}
}

func TestLaw(t *testing.T) {
	for seed := range 400 {
		r := rand.New(rand.NewSource(int64(seed)))
		n, many, spread := 1+r.Intn(6), r.Intn(11), r.Intn(5)
		l := anyEdges(r, n, many, spread)
		checkLaw(t, n, l, span.Tree, 1)
		checkLaw(t, n, l, span.Most, -1)
		checkOne(t, n, l)
	}
}

func TestLawOfMore(t *testing.T) {
	for seed := range 100 {
		r := rand.New(rand.NewSource(int64(seed)))
		n := 1 + r.Intn(30)
		l := anyEdges(r, n, r.Intn(3*n), []int{0, 2, 10, math.MaxInt32 - 1}[seed%4])
		checkLaw(t, n, l, span.Tree, 1)
		checkLaw(t, n, l, span.Most, -1)
		checkOne(t, n, l)
	}
}

// The most vertices and edges: any, all round one vertex, and one ring told from
// its end; a walk over the vertices for each edge would take hours.
func TestMostEdges(t *testing.T) {
	r := rand.New(rand.NewSource(9))
	star, ring := make([]span.Edge, most), make([]span.Edge, most)
	for i := range most {
		star[i] = span.Edge{A: most / 2, B: i, W: int32(-i)}
		ring[i] = span.Edge{A: (i + 1) % most, B: i, W: int32(most - i)}
	}
	for _, l := range [][]span.Edge{anyEdges(r, most, most, 1), anyEdges(r, most/2, most, 1<<30), star, ring} {
		marks, sum, err := span.Tree(most, l)
		checkErr(t, "Tree", err, 0)
		checkQuick(t, l, marks, sum, 1)
		if is, err := span.Least(most, l, marks); !is || err != nil {
			t.Fatalf("Least of Tree's marks: %v, %v", is, err)
		}
		marks[most-1] = !marks[most-1]
		if is, err := span.Least(most, l, marks); is || err != nil {
			t.Fatalf("Least of other marks: %v, %v", is, err)
		}
		marks, sum, err = span.Most(most, l)
		checkErr(t, "Most", err, 0)
		checkQuick(t, l, marks, sum, -1)
	}
}

// checkQuick fails unless marks and sum are those of the least (or, with sign
// -1, the greatest) trees, found here by a sort that keeps the places' order,
// and a list of who is above whom.
func checkQuick(t *testing.T, l []span.Edge, marks []bool, sum int64, sign int) {
	t.Helper()
	order := make([]int, len(l))
	for i := range order {
		order[i] = i
	}
	if sign < 0 {
		slices.Reverse(order)
	}
	slices.SortStableFunc(order, func(a, b int) int { return sign * cmp.Compare(l[a].W, l[b].W) })
	above := make([]int, most)
	for x := range above {
		above[x] = x
	}
	top := func(x int) int {
		for above[x] != x {
			above[x] = above[above[x]]
			x = above[x]
		}
		return x
	}
	want := int64(0)
	for _, i := range order {
		a, b := top(l[i].A), top(l[i].B)
		if marks[i] != (a != b) {
			t.Fatalf("the edge at %d: %v", i, marks[i])
		}
		if a != b {
			above[a] = b
			want += int64(l[i].W)
		}
	}
	if sum != want {
		t.Fatalf("sum %d, want %d", sum, want)
	}
}

// What is handed in is not changed, spare room neither; what is answered is new
// memory, spare room too, and hangs on nothing that was asked before.
func TestArgumentsStay(t *testing.T) {
	all := []span.Edge{{2, 0, 3}, {1, 2, 2}, {0, 1, 1}, {3, 3, -4}, {7, 8, 9}, {-1, 5, 6}}
	l, allWas := all[:4], slices.Clone(all)
	tree, greatest := []bool{false, true, true, false}, []bool{true, true, false, false}
	wide := append(slices.Clone(tree), true, false, true)
	marks, wideWas := wide[:4], slices.Clone(wide)
	for range 3 {
		got, sum, err := span.Tree(4, l)
		checkMarks(t, "Tree", got, sum, err, tree, 3)
		other, sum, err := span.Most(4, l)
		checkMarks(t, "Most", other, sum, err, greatest, 5)
		spoil(got)
		checkMarks(t, "Most's, behind that", other, sum, nil, greatest, 5)
		spoil(other)
		checkLeast(t, 4, l, marks, true, 0)
		checkLeast(t, 4, l, marks[:3], false, api.ErrArg)
		checkWrong(t, 3, l, api.ErrRange)
		if !slices.Equal(all, allWas) || !slices.Equal(wide, wideWas) {
			t.Fatalf("what was handed in is %v, %v", all, wide)
		}
	}
}

// spoil turns each mark of a list and its spare room round.
func spoil(marks []bool) {
	marks = marks[:cap(marks)]
	for i := range marks {
		marks[i] = !marks[i]
	}
}
