package perm_test

import (
	"errors"
	"math"
	"math/rand"
	"slices"
	"testing"

	"plait/api"
	"plait/perm"
)

// most is how many numbers an order made of cycles has at most.
const most = 1 << 22

// far are numbers that no order has.
var far = []int{-1, -2, math.MinInt, math.MinInt32, -1 << 32, most + 2, math.MaxInt32, math.MaxUint32, 1 << 32, 1<<32 + 1, math.MaxInt - 1, math.MaxInt}

// checkErr fails unless err is the number want (0: nil), as errors.As finds it.
func checkErr(t *testing.T, what string, err error, want api.Errno) {
	t.Helper()
	if want == 0 {
		if err != nil {
			t.Fatalf("%s: error %v, want none", what, err)
		}
		return
	}
	var e api.Errno
	if !errors.As(err, &e) || e != want {
		t.Fatalf("%s: error %v, want %v", what, err, want)
	}
}

// checkList fails unless a call answered just that list.
func checkList(t *testing.T, what string, got []int, err error, want []int, wantErr api.Errno) {
	t.Helper()
	checkErr(t, what, err, wantErr)
	if !slices.Equal(got, want) {
		t.Fatalf("%s: %v, want %v", what, got, want)
	}
}

// checkLists fails unless a call answered just these lists.
func checkLists(t *testing.T, what string, got [][]int, err error, want [][]int, wantErr api.Errno) {
	t.Helper()
	checkErr(t, what, err, wantErr)
	if !slices.EqualFunc(got, want, slices.Equal[[]int]) {
		t.Fatalf("%s: %v, want %v", what, got, want)
	}
}

// eachList goes over all lists of n numbers from low to high.
func eachList(n, low, high int) func(yield func([]int) bool) {
	return func(yield func([]int) bool) {
		p := make([]int, n)
		for i := range p {
			p[i] = low
		}
		for yield(slices.Clone(p)) {
			i := 0
			for ; i < n && p[i] == high; i++ {
				p[i] = low
			}
			if i == n {
				return
			}
			p[i]++
		}
	}
}

// eachOrder goes over all orders of n numbers.
func eachOrder(n int) func(yield func([]int) bool) {
	return func(yield func([]int) bool) {
		for p := range eachList(n, 0, n-1) {
			if plainCheck(p) == 0 && !yield(p) {
				return
			}
		}
	}
}

// The plain ones go over the lists anew for each number.

func plainCheck(p []int) api.Errno {
	for x := range p {
		times := 0
		for _, y := range p {
			if y == x {
				times++
			}
		}
		if times != 1 {
			return api.ErrForm
		}
	}
	return 0
}

func plainInverse(p []int) []int {
	var q []int
	for x := range p {
		q = append(q, slices.Index(p, x))
	}
	return q
}

func plainThen(p, q []int) []int {
	var out []int
	for i := range p {
		out = append(out, q[p[i]])
	}
	return out
}

// plainOrbit is where x is after each number of steps, till it is x again.
func plainOrbit(p []int, x int) []int {
	out := []int{x}
	for p[out[len(out)-1]] != x {
		out = append(out, p[out[len(out)-1]])
	}
	return out
}

func plainCycles(p []int) [][]int {
	var out [][]int
	for x := range p {
		if orbit := plainOrbit(p, x); slices.Min(orbit) == x {
			out = append(out, orbit)
		}
	}
	return out
}

func plainOf(n int, l [][]int) ([]int, api.Errno) {
	var all []int
	for _, c := range l {
		if len(c) == 0 {
			return nil, api.ErrForm
		}
		for _, x := range c {
			if x < 0 || x > n-1 || slices.Contains(all, x) {
				return nil, api.ErrForm
			}
			all = append(all, x)
		}
	}
	p := make([]int, n)
	for x := range n {
		p[x] = x
		for _, c := range l {
			if i := slices.Index(c, x); i >= 0 {
				p[x] = c[(i+1)%len(c)]
			}
		}
	}
	return p, 0
}

// The chapter's example.
func TestExample(t *testing.T) {
	l, err := perm.Cycles([]int{1, 0, 2})
	checkLists(t, "Cycles", l, err, [][]int{{0, 1}, {2}}, 0)
}

// Some answers written out, so that the plain ones above are held to something.
func TestWrittenOut(t *testing.T) {
	p, q := []int{2, 0, 1, 4, 3, 5}, []int{5, 1, 0, 3, 2, 4}
	got, err := perm.Inverse(p)
	checkList(t, "Inverse", got, err, []int{1, 2, 0, 4, 3, 5}, 0)
	got, err = perm.Then(p, q)
	checkList(t, "Then", got, err, []int{0, 5, 1, 2, 3, 4}, 0)
	got, err = perm.Then(q, p)
	checkList(t, "Then", got, err, []int{5, 0, 2, 4, 1, 3}, 0)
	l, err := perm.Cycles(p)
	checkLists(t, "Cycles", l, err, [][]int{{0, 2, 1}, {3, 4}, {5}}, 0)
	l, err = perm.Cycles(q)
	checkLists(t, "Cycles", l, err, [][]int{{0, 5, 4, 2}, {1}, {3}}, 0)
	got, err = perm.Orbit(q, 4)
	checkList(t, "Orbit", got, err, []int{4, 2, 0, 5}, 0)
	got, err = perm.Of(6, [][]int{{4, 3}, {2, 1, 0}})
	checkList(t, "Of", got, err, p, 0)
}

// PM1, PM2: every list of few numbers, orders and others.
func TestEachList(t *testing.T) {
	for n := range 6 {
		for p := range eachList(n, -1, n) {
			checkOne(t, p)
		}
	}
	for p := range eachOrder(6) {
		checkOne(t, p)
	}
}

// checkOne fails unless all calls on one list answer what the plain ones do.
func checkOne(t *testing.T, p []int) {
	t.Helper()
	want := plainCheck(p)
	checkErr(t, "Check", perm.Check(p), want)
	var inverse []int
	var cycles [][]int
	if want == 0 {
		inverse, cycles = plainInverse(p), plainCycles(p)
	}
	q, err := perm.Inverse(p)
	checkList(t, "Inverse", q, err, inverse, want)
	l, err := perm.Cycles(p)
	checkLists(t, "Cycles", l, err, cycles, want)
	for x := -1; x <= len(p); x++ {
		wantErr := want
		var orbit []int
		if want == 0 && x >= 0 && x < len(p) {
			orbit = plainOrbit(p, x)
		} else if want == 0 {
			wantErr = api.ErrRange
		}
		c, err := perm.Orbit(p, x)
		checkList(t, "Orbit", c, err, orbit, wantErr)
	}
}

// PM1: Check, and all that ask it, at numbers that are far off, and at lists
// that lack one number, at each place.
func TestWrongLists(t *testing.T) {
	for _, n := range []int{1, 2, 3, 8, 65, 300} {
		p := rand.New(rand.NewSource(int64(n))).Perm(n)
		checkErr(t, "Check", perm.Check(p), 0)
		for i := range n {
			for _, x := range append([]int{n, n + 1, -n, p[(i+1)%n]}, far...) {
				if x == p[i] {
					continue
				}
				wrong := slices.Clone(p)
				wrong[i] = x
				checkWrong(t, wrong)
			}
		}
		checkWrong(t, append(slices.Clone(p), n+1))
		checkWrong(t, append(slices.Clone(p), p[0]))
		checkWrong(t, append([]int{-1}, p...))
	}
}

// checkWrong fails unless every call on a list that is no order tells so.
func checkWrong(t *testing.T, p []int) {
	t.Helper()
	checkErr(t, "Check", perm.Check(p), api.ErrForm)
	q, err := perm.Inverse(p)
	checkList(t, "Inverse", q, err, nil, api.ErrForm)
	l, err := perm.Cycles(p)
	checkLists(t, "Cycles", l, err, nil, api.ErrForm)
	for _, x := range []int{0, -1, len(p)} {
		c, err := perm.Orbit(p, x)
		checkList(t, "Orbit", c, err, nil, api.ErrForm)
	}
	for _, n := range []int{0, 1, len(p), len(p) + 1} {
		c, err := perm.Then(p, plainSame(n))
		checkList(t, "Then", c, err, nil, api.ErrForm)
		c, err = perm.Then(plainSame(n), p)
		checkList(t, "Then", c, err, nil, api.ErrForm)
	}
	c, err := perm.Then(p, p)
	checkList(t, "Then", c, err, nil, api.ErrForm)
}

// plainSame is the order that leaves all where it is.
func plainSame(n int) []int {
	p := make([]int, n)
	for i := range p {
		p[i] = i
	}
	return p
}

// Nil and the empty list are one order, of no numbers.
func TestNoNumbers(t *testing.T) {
	for _, p := range [][]int{nil, {}} {
		checkOne(t, p)
		for _, q := range [][]int{nil, {}} {
			got, err := perm.Then(p, q)
			checkList(t, "Then", got, err, nil, 0)
		}
		got, err := perm.Then(p, []int{0})
		checkList(t, "Then", got, err, nil, api.ErrArg)
		got, err = perm.Then([]int{0}, p)
		checkList(t, "Then", got, err, nil, api.ErrArg)
	}
	for _, l := range [][][]int{nil, {}} {
		p, err := perm.Of(0, l)
		checkList(t, "Of", p, err, nil, 0)
		p, err = perm.Of(3, l)
		checkList(t, "Of", p, err, []int{0, 1, 2}, 0)
	}
	for _, l := range [][][]int{{nil}, {{}}, {{0}}, {{-1}}, {{}, {0}}} {
		p, err := perm.Of(0, l)
		checkList(t, "Of", p, err, nil, api.ErrForm)
	}
}

// PM1: Then, of all orders of few numbers, of as many or not.
func TestThen(t *testing.T) {
	for n := range 5 {
		for m := range 5 {
			for p := range eachOrder(n) {
				for q := range eachOrder(m) {
					got, err := perm.Then(p, q)
					if n != m {
						checkList(t, "Then", got, err, nil, api.ErrArg)
					} else {
						checkList(t, "Then", got, err, plainThen(p, q), 0)
					}
				}
			}
		}
	}
}

// PM2: Orbit at numbers that are not there.
func TestOrbitWrong(t *testing.T) {
	for _, n := range []int{0, 1, 2, 9} {
		p := rand.New(rand.NewSource(int64(n))).Perm(n)
		for _, x := range append([]int{n, n + 1, -n - 1}, far...) {
			c, err := perm.Orbit(p, x)
			checkList(t, "Orbit", c, err, nil, api.ErrRange)
		}
	}
}

// PM2: Of, of all lists of some numbers, cut into lists in all ways, of which
// some are empty, or numbers in them wrong or there twice.
func TestOfEach(t *testing.T) {
	for n := range 4 {
		for many := range 5 {
			for all := range eachList(many, -1, n) {
				for at := range eachList(2, 0, many) {
					if at[0] > at[1] {
						continue
					}
					l := [][]int{all[:at[0]], all[at[0]:at[1]], all[at[1]:]}
					checkOf(t, n, l)
					checkOf(t, n, l[:2])
					checkOf(t, n, l[1:])
					checkOf(t, n, [][]int{all})
				}
			}
		}
	}
}

// checkOf fails unless Of answers what the plain one does.
func checkOf(t *testing.T, n int, l [][]int) {
	t.Helper()
	want, wantErr := plainOf(n, l)
	got, err := perm.Of(n, l)
	checkList(t, "Of", got, err, want, wantErr)
}

// PM2: Of at wrong lists, each alone and behind right ones.
func TestOfWrong(t *testing.T) {
	wrong := [][]int{nil, {}, {3, 3}, {5, 4, 3, 5}, {6}, {3, 6}, {6, 3}}
	for _, x := range far {
		wrong = append(wrong, []int{x}, []int{3, x}, []int{x, 4})
	}
	for _, c := range wrong {
		for _, l := range [][][]int{{c}, {{1, 0}, c}, {c, {2}}, {{1}, c, {0, 2}}} {
			p, err := perm.Of(6, l)
			checkList(t, "Of", p, err, nil, api.ErrForm)
		}
	}
	once := []int{0, 1}
	p, err := perm.Of(6, [][]int{once, once})
	checkList(t, "Of", p, err, nil, api.ErrForm)
	p, err = perm.Of(6, [][]int{{0, 1}, {2, 3}, {4, 1}})
	checkList(t, "Of", p, err, nil, api.ErrForm)
}

// PM2: Of at numbers of numbers that may not be, whatever the lists.
func TestOfLong(t *testing.T) {
	for _, n := range []int{-1, -2, -most, math.MinInt32, -1 << 32, math.MinInt, most + 1, most + 2, 2 * most, math.MaxInt32, 1 << 32, 1<<32 + 1, math.MaxInt} {
		for _, l := range [][][]int{nil, {{0}}, {{}}, {{-1}}, {{0, 0}}, {{n}}} {
			p, err := perm.Of(n, l)
			checkList(t, "Of", p, err, nil, api.ErrLong)
		}
	}
}

// PM2: Of at the most numbers.
func TestOfMost(t *testing.T) {
	p, err := perm.Of(most, [][]int{{most - 1, 0}})
	want := plainSame(most)
	want[0], want[most-1] = most-1, 0
	checkErr(t, "Of", err, 0)
	if !slices.Equal(p, want) {
		t.Fatal("Of the most numbers: another order")
	}
	p, err = perm.Of(most, [][]int{{most}})
	checkList(t, "Of", p, err, nil, api.ErrForm)
}

// PM3: of all orders of few numbers, and some of many.

// checkThere fails unless Of of Cycles is the order, and Then of it and its
// Inverse, both ways, leaves all where it is.
func checkThere(t *testing.T, p []int) {
	t.Helper()
	l, err := perm.Cycles(p)
	checkErr(t, "Cycles", err, 0)
	again, err := perm.Of(len(p), l)
	checkErr(t, "Of", err, 0)
	q, err := perm.Inverse(p)
	checkErr(t, "Inverse", err, 0)
	one, err := perm.Then(p, q)
	checkErr(t, "Then", err, 0)
	other, err := perm.Then(q, p)
	checkErr(t, "Then", err, 0)
	if same := plainSame(len(p)); !slices.Equal(again, p) || !slices.Equal(one, same) || !slices.Equal(other, same) {
		t.Fatalf("an order of %d numbers: not as it was", len(p))
	}
}

func TestThereAndBack(t *testing.T) {
	for n := range 8 {
		for p := range eachOrder(n) {
			checkThere(t, p)
		}
	}
	for n := range 300 {
		checkThere(t, rand.New(rand.NewSource(int64(n))).Perm(n))
	}
}

// turned is the order in which each number goes some places on.
func turned(n, by int) []int {
	p := make([]int, n)
	for i := range p {
		p[i] = (i + by) % n
	}
	return p
}

// The most numbers: one cycle of all, many of one or two numbers, and any; each
// call goes over them a few times, more would take hours.
func TestMostNumbers(t *testing.T) {
	for _, p := range [][]int{turned(most, 1), turned(most, most-1), turned(most, most/2), turned(most, 0), rand.New(rand.NewSource(8)).Perm(most)} {
		checkThere(t, p)
		checkWhole(t, p)
	}
}

// Of alone has a bound: the other calls take a list of more numbers.
func TestBeyondMost(t *testing.T) {
	p := turned(most+3, 2)
	checkErr(t, "Check", perm.Check(p), 0)
	checkWhole(t, p)
	q, err := perm.Inverse(p)
	checkErr(t, "Inverse", err, 0)
	same, err := perm.Then(p, q)
	checkErr(t, "Then", err, 0)
	if !slices.Equal(same, plainSame(len(p))) {
		t.Fatal("Then: not as it was")
	}
	p[most] = p[most+1]
	checkErr(t, "Check", perm.Check(p), api.ErrForm)
}

// checkWhole fails unless the cycles are from their least numbers on, ascending,
// each followed from one number to the next, with all numbers in them.
func checkWhole(t *testing.T, p []int) {
	t.Helper()
	l, err := perm.Cycles(p)
	checkErr(t, "Cycles", err, 0)
	numbers, before := 0, -1
	for _, c := range l {
		if c[0] <= before || slices.Min(c) != c[0] {
			t.Fatalf("a cycle from %d on, behind that from %d on", c[0], before)
		}
		before = c[0]
		numbers += len(c)
		for i, x := range c {
			if p[x] != c[(i+1)%len(c)] {
				t.Fatalf("a cycle with %d behind %d", c[(i+1)%len(c)], x)
			}
		}
	}
	if numbers != len(p) {
		t.Fatalf("cycles of %d numbers, want %d", numbers, len(p))
	}
	c, err := perm.Orbit(p, len(p)-1)
	checkErr(t, "Orbit", err, 0)
	for i, x := range c {
		if i > 0 && x == len(p)-1 || p[x] != c[(i+1)%len(c)] {
			t.Fatalf("an orbit with %d behind %d", c[(i+1)%len(c)], x)
		}
	}
	if c[0] != len(p)-1 {
		t.Fatalf("an orbit from %d on, want %d", c[0], len(p)-1)
	}
}

// What is handed in is not changed; what is answered is new memory, spare room
// too, and no two lists of it share any.

// roomy is a list with spare room, and all of it as it is.
func roomy(p ...int) (list, whole []int) {
	whole = append(slices.Clone(p), 70, 71, 72, 73)
	return whole[:len(p)], whole
}

// spoil writes over a list and its spare room.
func spoil(p []int) {
	for i := range p[:cap(p)] {
		p[:cap(p)][i] = -9
	}
}

func TestArgumentsStay(t *testing.T) {
	p, pAll := roomy(2, 0, 1, 4, 3)
	q, qAll := roomy(0, 1, 2, 3, 4)
	c, cAll := roomy(0, 3)
	d, dAll := roomy(4)
	l := append(make([][]int, 0, 4), c, d)
	wants := [][]int{slices.Clone(pAll), slices.Clone(qAll), slices.Clone(cAll), slices.Clone(dAll)}
	for range 2 {
		checkErr(t, "Check", perm.Check(p), 0)
		inverse, err := perm.Inverse(p)
		checkList(t, "Inverse", inverse, err, []int{1, 2, 0, 4, 3}, 0)
		spoil(inverse)
		then, err := perm.Then(p, q)
		checkList(t, "Then", then, err, p, 0)
		spoil(then)
		then, err = perm.Then(q, p)
		checkList(t, "Then", then, err, p, 0)
		spoil(then)
		orbit, err := perm.Orbit(p, 1)
		checkList(t, "Orbit", orbit, err, []int{1, 0, 2}, 0)
		spoil(orbit)
		orbit, err = perm.Orbit(q, 1)
		checkList(t, "Orbit", orbit, err, []int{1}, 0)
		spoil(orbit)
		of, err := perm.Of(5, l)
		checkList(t, "Of", of, err, []int{3, 1, 2, 0, 4}, 0)
		spoil(of)
		for i, all := range [][]int{pAll, qAll, cAll, dAll} {
			checkList(t, "what was handed in", all, nil, wants[i], 0)
		}
		checkLists(t, "what was handed in", l[:cap(l)], nil, [][]int{{0, 3}, {4}, nil, nil}, 0)
	}
}

func TestCyclesShareNothing(t *testing.T) {
	p, all := roomy(3, 0, 2, 1, 5, 4, 6)
	want, wantAll := [][]int{{0, 3, 1}, {2}, {4, 5}, {6}}, slices.Clone(all)
	for i := range want {
		l, err := perm.Cycles(p)
		checkLists(t, "Cycles", l, err, want, 0)
		spoil(l[i])
		for j := range want {
			if j != i {
				checkList(t, "another cycle", l[j], nil, want[j], 0)
			}
		}
		checkList(t, "what was handed in", all, nil, wantAll, 0)
	}
}
