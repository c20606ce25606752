package unite_test

import (
	"errors"
	"math"
	"math/rand"
	"slices"
	"testing"

	"plait/api"
	"plait/unite"
)

// most is how many members there are at most.
const most = 1 << 22

// far are members that no Groups has.
var far = []int{-1, -2, math.MinInt, math.MinInt32, -1 << 32, most, most + 1, math.MaxInt32, math.MaxInt32 + 1, math.MaxUint32, 1 << 32, math.MaxInt - 1, math.MaxInt}

// checkErr fails unless err is the number want (0: nil), as errors.As finds it.
func checkErr(t *testing.T, what string, err error, want api.Errno) {
	t.Helper()
	if want == 0 {
		if err != nil {
			t.Fatalf("%s: error %v, want none", what, err)
		}
		return
	}
	var e api.Errno
	if !errors.As(err, &e) || e != want {
		t.Fatalf("%s: error %v, want %v", what, err, want)
	}
}

// check fails unless a call answered just that.
func check[T comparable](t *testing.T, what string, got T, err error, want T, wantErr api.Errno) {
	t.Helper()
	checkErr(t, what, err, wantErr)
	if got != want {
		t.Fatalf("%s: %v, want %v", what, got, want)
	}
}

func made(t *testing.T, n int) *unite.Groups {
	t.Helper()
	g, err := unite.New(n)
	checkErr(t, "New", err, 0)
	if g == nil {
		t.Fatalf("New(%d): nil beside no error", n)
	}
	return g
}

// joined joins two that are not of one group.
func joined(t *testing.T, g *unite.Groups, a, b int) {
	t.Helper()
	were, err := g.Join(a, b)
	check(t, "Join", were, err, true, 0)
}

// lists are groups as plain lists: behind each number of steps which group each
// member is of.
type lists struct{ behind [][]int }

func newLists(n int) *lists {
	first := make([]int, n)
	for x := range first {
		first[x] = x
	}
	return &lists{[][]int{first}}
}

// now is which group each member is of.
func (l *lists) now() []int { return l.behind[len(l.behind)-1] }

// is tells whether there are such members.
func (l *lists) is(members ...int) bool {
	return !slices.ContainsFunc(members, func(x int) bool { return x < 0 || x >= len(l.now()) })
}

func (l *lists) join(a, b int) (bool, api.Errno) {
	if !l.is(a, b) {
		return false, api.ErrRange
	}
	from, to := l.now()[a], l.now()[b]
	if from == to {
		return false, 0
	}
	next := slices.Clone(l.now())
	for x, of := range next {
		if of == from {
			next[x] = to
		}
	}
	l.behind = append(l.behind, next)
	return true, 0
}

func (l *lists) back(steps int) api.Errno {
	if steps < 0 || steps >= len(l.behind) {
		return api.ErrArg
	}
	l.behind = l.behind[:steps+1]
	return 0
}

// group are the members of a member's group.
func (l *lists) group(x int) []int {
	var out []int
	for y, of := range l.now() {
		if of == l.now()[x] {
			out = append(out, y)
		}
	}
	return out
}

// count is how many groups there are.
func (l *lists) count() int {
	all := slices.Clone(l.now())
	slices.Sort(all)
	return len(slices.Compact(all))
}

// checkCounts fails unless g has as many groups and steps.
func (l *lists) checkCounts(t *testing.T, g *unite.Groups) {
	t.Helper()
	check(t, "Count", g.Count(), nil, l.count(), 0)
	check(t, "Steps", g.Steps(), nil, len(l.behind)-1, 0)
}

// checkTwo fails unless g tells the same of two members.
func (l *lists) checkTwo(t *testing.T, g *unite.Groups, a, b int) {
	t.Helper()
	group := l.group(a)
	size, err := g.Size(a)
	check(t, "Size", size, err, len(group), 0)
	least, err := g.Least(a)
	check(t, "Least", least, err, group[0], 0)
	same, err := g.Same(a, b)
	check(t, "Same", same, err, slices.Contains(group, b), 0)
}

// checkAll fails unless g tells the same of all there is.
func (l *lists) checkAll(t *testing.T, g *unite.Groups) {
	t.Helper()
	l.checkCounts(t, g)
	for a := range l.now() {
		for b := range l.now() {
			l.checkTwo(t, g, a, b)
		}
	}
}

// checkJoin joins two in both, and fails unless they answer the same.
func (l *lists) checkJoin(t *testing.T, g *unite.Groups, a, b int) {
	t.Helper()
	want, wantErr := l.join(a, b)
	were, err := g.Join(a, b)
	check(t, "Join", were, err, want, wantErr)
}

// checkBack goes back in both, and fails unless they answer the same.
func (l *lists) checkBack(t *testing.T, g *unite.Groups, steps int) {
	t.Helper()
	checkErr(t, "Back", g.Back(steps), l.back(steps))
}

// The chapter's example.
func TestExample(t *testing.T) {
	g := made(t, 3)
	joined(t, g, 0, 1)
	joined(t, g, 1, 2)
	checkErr(t, "Back", g.Back(1), 0)
	size, err := g.Size(2)
	check(t, "Size", size, err, 1, 0)
	same, err := g.Same(1, 2)
	check(t, "Same", same, err, false, 0)
	same, err = g.Same(0, 1)
	check(t, "Same", same, err, true, 0)
	check(t, "Count", g.Count(), nil, 2, 0)
}

// UN1: New.

func TestNew(t *testing.T) {
	for _, n := range []int{1, 2, 3, 7, 16} {
		newLists(n).checkAll(t, made(t, n))
	}
	for _, n := range []int{1, 1000, 1 << 16, most - 1, most} {
		g := made(t, n)
		check(t, "Count", g.Count(), nil, n, 0)
		check(t, "Steps", g.Steps(), nil, 0, 0)
		for _, x := range []int{0, n / 2, n - 1} {
			size, err := g.Size(x)
			check(t, "Size", size, err, 1, 0)
			least, err := g.Least(x)
			check(t, "Least", least, err, x, 0)
		}
	}
}

func TestNewWrong(t *testing.T) {
	for _, n := range []int{0, -1, -2, -most, math.MinInt32, -1 << 32, math.MinInt, most + 1, most + 2, 2 * most, math.MaxInt32, 1 << 32, 1<<32 + 1, math.MaxInt} {
		g, err := unite.New(n)
		check(t, "New", g, err, nil, api.ErrArg)
	}
}

// Many Groups of the most members cost little, as long as few are used.
func TestNewManyMembers(t *testing.T) {
	for x := range 1 << 12 {
		g := made(t, most)
		joined(t, g, x, x+1)
		least, err := g.Least(x + 1)
		check(t, "Least", least, err, x, 0)
	}
}

// UN1: Join, Same, Size, Least, Count, Steps.

// Groups of several sizes, joined by any two of their members, told both ways;
// those of one group, a member and itself too, are not joined again.
func TestJoin(t *testing.T) {
	groups := [][]int{{3, 1, 4}, {0, 6}, {5}, {2, 7, 8, 9}}
	for a := range 10 {
		for b := range 10 {
			g, l := made(t, 10), newLists(10)
			for _, group := range groups {
				for _, x := range group[1:] {
					l.checkJoin(t, g, group[0], x)
				}
			}
			l.checkAll(t, g)
			l.checkJoin(t, g, a, b)
			l.checkAll(t, g)
			for range 2 {
				l.checkJoin(t, g, a, b)
				l.checkJoin(t, g, b, a)
				l.checkAll(t, g)
			}
		}
	}
}

// The least member comes from either group, the lesser or the greater one.
func TestLeast(t *testing.T) {
	for low := range 6 {
		g, l := made(t, 6), newLists(6)
		rest := slices.DeleteFunc([]int{5, 4, 3, 2, 1, 0}, func(x int) bool { return x == low })
		for _, x := range rest[1:] {
			l.checkJoin(t, g, rest[0], x)
			l.checkAll(t, g)
		}
		l.checkJoin(t, g, rest[2], low)
		l.checkAll(t, g)
		l.checkBack(t, g, 4)
		l.checkAll(t, g)
		l.checkJoin(t, g, low, rest[1])
		l.checkAll(t, g)
	}
}

// UN1, UN2: a member that is none, and a nil Groups.

// checkNone fails unless every call on a member answers that error; other is a
// member that is.
func checkNone(t *testing.T, g *unite.Groups, x, other int, want api.Errno) {
	t.Helper()
	for _, two := range [][2]int{{x, x}, {x, other}, {other, x}} {
		were, err := g.Join(two[0], two[1])
		check(t, "Join", were, err, false, want)
		same, err := g.Same(two[0], two[1])
		check(t, "Same", same, err, false, want)
	}
	size, err := g.Size(x)
	check(t, "Size", size, err, 0, want)
	least, err := g.Least(x)
	check(t, "Least", least, err, 0, want)
}

func TestNoMember(t *testing.T) {
	for _, n := range []int{1, 2, 3, 16} {
		g, l := made(t, n), newLists(n)
		for range 2 {
			for _, x := range append([]int{n, n + 1, 2 * n, -n}, far...) {
				checkNone(t, g, x, n-1, api.ErrRange)
				checkNone(t, g, x, 0, api.ErrRange)
			}
			l.checkAll(t, g)
			for x := range n - 1 {
				l.checkJoin(t, g, n-1, x)
			}
		}
	}
	g := made(t, most)
	for _, x := range far {
		checkNone(t, g, x, most-1, api.ErrRange)
	}
	check(t, "Count", g.Count(), nil, most, 0)
}

func TestNil(t *testing.T) {
	var g *unite.Groups
	for _, x := range append([]int{0, 1, most - 1}, far...) {
		checkNone(t, g, x, 0, api.ErrArg)
		checkErr(t, "Back", g.Back(x), api.ErrArg)
	}
	check(t, "Count", g.Count(), nil, 0, 0)
	check(t, "Steps", g.Steps(), nil, 0, 0)
}

// UN2: Back.

// Back to each number of steps, then on from there.
func TestBack(t *testing.T) {
	joins := [][2]int{{5, 4}, {3, 2}, {4, 2}, {4, 5}, {1, 0}, {6, 6}, {0, 3}, {7, 1}, {2, 7}}
	for steps := range 7 {
		g, l := made(t, 9), newLists(9)
		for _, two := range joins {
			l.checkJoin(t, g, two[0], two[1])
		}
		check(t, "Steps", g.Steps(), nil, 6, 0)
		l.checkBack(t, g, steps)
		check(t, "Steps", g.Steps(), nil, steps, 0)
		l.checkAll(t, g)
		l.checkBack(t, g, steps)
		l.checkAll(t, g)
		l.checkJoin(t, g, 8, 3)
		l.checkAll(t, g)
		l.checkBack(t, g, steps)
		l.checkAll(t, g)
		l.checkBack(t, g, 0)
		newLists(9).checkAll(t, g)
	}
}

// Below 0, or above Steps: nothing is changed. What was undone counts no more.
func TestBackWrong(t *testing.T) {
	g, l := made(t, 6), newLists(6)
	for steps := range 6 {
		for _, k := range []int{-1, -2, math.MinInt32, -1 << 32, math.MinInt, steps + 1, steps + 2, 6, 1 << 32, 1<<32 + steps, math.MaxInt} {
			checkErr(t, "Back", g.Back(k), api.ErrArg)
		}
		l.checkAll(t, g)
		if steps < 5 {
			l.checkJoin(t, g, steps, steps+1)
		}
	}
	l.checkBack(t, g, 2)
	for _, k := range []int{3, 4, 5, -1} {
		checkErr(t, "Back to what was undone", g.Back(k), api.ErrArg)
	}
	l.checkAll(t, g)
}

// A Join that answered false, or an error, is no step: Back undoes none of it.
func TestBackSkips(t *testing.T) {
	g, l := made(t, 4), newLists(4)
	l.checkJoin(t, g, 3, 2)
	l.checkJoin(t, g, 2, 3)
	l.checkJoin(t, g, 2, 4)
	l.checkJoin(t, g, 1, 2)
	l.checkJoin(t, g, 1, 3)
	l.checkJoin(t, g, 0, 0)
	l.checkJoin(t, g, -1, 0)
	check(t, "Steps", g.Steps(), nil, 2, 0)
	l.checkBack(t, g, 1)
	l.checkAll(t, g)
	same, err := g.Same(2, 3)
	check(t, "Same", same, err, true, 0)
}

// UN3, and rule 4.

// All ways of some steps with few members; nothing is asked ahead of the last
// one.
func TestEachWay(t *testing.T) {
	eachWay(t, 2, 5)
	eachWay(t, 3, 4)
	eachWay(t, 4, 3)
}

func eachWay(t *testing.T, n, many int) {
	// Beside all two members to join, all steps to go back to.
	choices := n*n + n
	way := make([]int, many)
	for {
		g, l := made(t, n), newLists(n)
		for _, k := range way {
			if k < n*n {
				l.checkJoin(t, g, k/n, k%n)
			} else {
				l.checkBack(t, g, k-n*n)
			}
		}
		l.checkAll(t, g)
		i := 0
		for ; i < many && way[i] == choices-1; i++ {
			way[i] = 0
		}
		if i == many {
			return
		}
		way[i]++
	}
}

// Two Groups that are handled alike, of which one is asked far less often: what
// was asked must not be seen later on.
func TestAsLists(t *testing.T) {
	for _, n := range []int{1, 2, 3, 5, 17, 40, 100} {
		r := rand.New(rand.NewSource(int64(n)))
		often, seldom, l := made(t, n), made(t, n), newLists(n)
		for step := range 4000 {
			a, b := r.Intn(n+2)-1, r.Intn(n+2)-1
			if r.Intn(8) == 0 {
				// Mostly a few steps; now and then many, or too many.
				have := len(l.behind) - 1
				to := max(have-r.Intn(8), -1)
				if r.Intn(8) == 0 {
					to = r.Intn(have+3) - 1
				}
				want := l.back(to)
				checkErr(t, "Back", often.Back(to), want)
				checkErr(t, "Back", seldom.Back(to), want)
			} else {
				want, wantErr := l.join(a, b)
				were, err := often.Join(a, b)
				check(t, "Join", were, err, want, wantErr)
				were, err = seldom.Join(a, b)
				check(t, "Join", were, err, want, wantErr)
			}
			l.checkCounts(t, often)
			l.checkTwo(t, often, r.Intn(n), r.Intn(n))
			if step%500 == 499 {
				l.checkAll(t, often)
				l.checkAll(t, seldom)
			}
		}
	}
}

// Two Groups know nothing of each other.
func TestTwoGroups(t *testing.T) {
	one, two := made(t, 5), made(t, 5)
	l, still := newLists(5), newLists(5)
	for x := range 4 {
		l.checkJoin(t, one, x, x+1)
		l.checkAll(t, one)
		still.checkAll(t, two)
	}
	still.checkJoin(t, two, 4, 2)
	l.checkBack(t, one, 0)
	l.checkAll(t, one)
	still.checkAll(t, two)
}

// The most members there may be, joined from the least, or from the greatest one
// on, or in pairs of groups of one size: of great groups each call needs few
// steps, a walk over a group would take some hours.
func TestMostMembers(t *testing.T) {
	for _, join := range []func(*testing.T, *unite.Groups){upwards, downwards, inPairs} {
		g := made(t, most)
		join(t, g)
		checkWhole(t, g)
		for range 2 {
			checkErr(t, "Back", g.Back(most/2), 0)
			check(t, "Count", g.Count(), nil, most/2, 0)
			checkErr(t, "Back", g.Back(0), 0)
			check(t, "Count", g.Count(), nil, most, 0)
			for x := range most {
				if size, _ := g.Size(x); size != 1 {
					t.Fatalf("Size(%d): %d, want 1", x, size)
				}
				if least, _ := g.Least(x); least != x {
					t.Fatalf("Least(%d): %d", x, least)
				}
			}
			downwards(t, g)
			checkWhole(t, g)
		}
	}
}

// checkWhole fails unless all of the most members are of one group.
func checkWhole(t *testing.T, g *unite.Groups) {
	t.Helper()
	check(t, "Count", g.Count(), nil, 1, 0)
	check(t, "Steps", g.Steps(), nil, most-1, 0)
	for x := range most {
		if size, err := g.Size(x); size != most || err != nil {
			t.Fatalf("Size(%d): %d, %v", x, size, err)
		}
		if least, err := g.Least(x); least != 0 || err != nil {
			t.Fatalf("Least(%d): %d, %v", x, least, err)
		}
		if same, err := g.Same(x, most-1); !same || err != nil {
			t.Fatalf("Same(%d, %d): %v, %v", x, most-1, same, err)
		}
	}
}

func upwards(t *testing.T, g *unite.Groups) {
	for x := 1; x < most; x++ {
		if were, err := g.Join(x, x-1); !were || err != nil {
			t.Fatalf("Join(%d, %d): %v, %v", x, x-1, were, err)
		}
	}
}

func downwards(t *testing.T, g *unite.Groups) {
	for x := most - 1; x > 0; x-- {
		if were, err := g.Join(x-1, x); !were || err != nil {
			t.Fatalf("Join(%d, %d): %v, %v", x-1, x, were, err)
		}
	}
}

func inPairs(t *testing.T, g *unite.Groups) {
	for size := 1; size < most; size *= 2 {
		for x := 0; x < most; x += 2 * size {
			if were, err := g.Join(x+size-1, x+size); !were || err != nil {
				t.Fatalf("Join(%d, %d): %v, %v", x+size-1, x+size, were, err)
			}
		}
	}
}

// A great group, parted and united again over and over.
func TestBackAndForth(t *testing.T) {
	const n = 1 << 18
	g := made(t, n)
	for x := 1; x < n; x++ {
		if x != n/2 {
			joined(t, g, x-1, x)
		}
	}
	for i := range n {
		a, b := i*7%(n/2), n/2+i*5%(n/2)
		joined(t, g, b, a)
		least, err := g.Least(b)
		check(t, "Least", least, err, 0, 0)
		checkErr(t, "Back", g.Back(n-2), 0)
		least, err = g.Least(b)
		check(t, "Least", least, err, n/2, 0)
		size, err := g.Size(a)
		check(t, "Size", size, err, n/2, 0)
		same, err := g.Same(a, b)
		check(t, "Same", same, err, false, 0)
	}
}
