package seq_test

import (
	"errors"
	"math"
	"math/rand"
	"slices"
	"testing"

	"plait/api"
	"plait/seq"
)

const (
	lowest  = math.MinInt64
	highest = math.MaxInt64
)

// far are items that no Forest has.
var far = []int{-1, -2, math.MinInt, math.MinInt32, seq.MaxItems, seq.MaxItems + 1, math.MaxInt32, math.MaxInt32 + 1, math.MaxUint32, math.MaxInt - 1, math.MaxInt}

// checkErr fails unless err is the number want (0: nil), as errors.As finds it.
func checkErr(t *testing.T, what string, err error, want api.Errno) {
	t.Helper()
	if want == 0 {
		if err != nil {
			t.Fatalf("%s: error %v, want none", what, err)
		}
		return
	}
	var e api.Errno
	if !errors.As(err, &e) || e != want {
		t.Fatalf("%s: error %v, want %v", what, err, want)
	}
}

// check fails unless a call answered just that.
func check[T comparable](t *testing.T, what string, got T, err error, want T, wantErr api.Errno) {
	t.Helper()
	checkErr(t, what, err, wantErr)
	if got != want {
		t.Fatalf("%s: %v, want %v", what, got, want)
	}
}

func made(t *testing.T, n int) *seq.Forest {
	t.Helper()
	f, err := seq.New(n)
	checkErr(t, "New", err, 0)
	if f == nil {
		t.Fatalf("New(%d): nil beside no error", n)
	}
	return f
}

// row makes a sequence of items that are alone.
func row(t *testing.T, f *seq.Forest, items ...int) {
	t.Helper()
	for _, x := range items[1:] {
		checkErr(t, "Join", f.Join(items[0], x), 0)
	}
}

func set(t *testing.T, f *seq.Forest, values ...int64) {
	t.Helper()
	for x, v := range values {
		checkErr(t, "Set", f.Set(x, v), 0)
	}
}

func checkCut(t *testing.T, f *seq.Forest, x int, want bool) {
	t.Helper()
	got, err := f.Cut(x)
	check(t, "Cut", got, err, want, 0)
}

func checkBest(t *testing.T, f *seq.Forest, x, least, most int) {
	t.Helper()
	got, err := f.Least(x)
	check(t, "Least", got, err, least, 0)
	got, err = f.Most(x)
	check(t, "Most", got, err, most, 0)
}

func checkSum(t *testing.T, f *seq.Forest, x int, want int64) {
	t.Helper()
	got, err := f.Sum(x)
	check(t, "Sum", got, err, want, 0)
}

// lists are sequences as plain lists, gone over anew each time.
type lists struct {
	rows   [][]int
	values []int64
}

func newLists(n int) *lists {
	l := &lists{values: make([]int64, n)}
	for x := range n {
		l.rows = append(l.rows, []int{x})
	}
	return l
}

// is tells whether there is such an item.
func (l *lists) is(x int) bool { return x >= 0 && x < len(l.values) }

// find is in which row an item stands, and at which place there.
func (l *lists) find(x int) (int, int) {
	for i, r := range l.rows {
		if k := slices.Index(r, x); k >= 0 {
			return i, k
		}
	}
	return -1, -1
}

func (l *lists) join(a, b int) api.Errno {
	if !l.is(a) || !l.is(b) {
		return api.ErrRange
	}
	i, _ := l.find(a)
	j, _ := l.find(b)
	if i == j {
		return api.ErrSame
	}
	l.rows[i] = slices.Concat(l.rows[i], l.rows[j])
	l.rows = slices.Delete(l.rows, j, j+1)
	return 0
}

func (l *lists) cut(x int) (bool, api.Errno) {
	if !l.is(x) {
		return false, api.ErrRange
	}
	i, k := l.find(x)
	if k == 0 {
		return false, 0
	}
	first, rest := slices.Clone(l.rows[i][:k]), slices.Clone(l.rows[i][k:])
	l.rows[i] = first
	l.rows = append(l.rows, rest)
	return true, 0
}

func (l *lists) reverse(x int) api.Errno {
	if !l.is(x) {
		return api.ErrRange
	}
	i, _ := l.find(x)
	slices.Reverse(l.rows[i])
	return 0
}

func (l *lists) set(x int, v int64) api.Errno {
	if !l.is(x) {
		return api.ErrRange
	}
	l.values[x] = v
	return 0
}

// best are the sum, and the first items of the least and the greatest value.
func (l *lists) best(r []int) (sum int64, least, most int) {
	least, most = r[0], r[0]
	for _, x := range r {
		sum += l.values[x]
		if l.values[x] < l.values[least] {
			least = x
		}
		if l.values[x] > l.values[most] {
			most = x
		}
	}
	return sum, least, most
}

// checkRow fails unless a sequence is the plain list, as every question that
// is asked of the k-th item tells it.
func (l *lists) checkRow(t *testing.T, f *seq.Forest, r []int, k int) {
	t.Helper()
	x := r[k]
	got, err := f.Rank(x)
	check(t, "Rank", got, err, k, 0)
	got, err = f.Size(x)
	check(t, "Size", got, err, len(r), 0)
	sum, least, most := l.best(r)
	checkBest(t, f, x, least, most)
	checkSum(t, f, x, sum)
	for i, y := range []int{x, r[0], r[len(r)-1], r[len(r)/2]} {
		same, err := f.Same(x, y)
		check(t, "Same", same, err, true, 0)
		at := []int{k, 0, len(r) - 1, len(r) / 2}[i]
		got, err = f.At(x, at)
		check(t, "At", got, err, y, 0)
	}
	for _, at := range []int{-1, len(r), len(r) + 1, math.MinInt, math.MaxInt, k + 1<<32} {
		got, err = f.At(x, at)
		check(t, "At of no place", got, err, 0, api.ErrArg)
	}
	list, err := f.List(x)
	checkErr(t, "List", err, 0)
	if !slices.Equal(list, r) {
		t.Fatalf("List(%d): %v, want %v", x, list, r)
	}
}

// checkAll fails unless all is as the plain lists tell it.
func (l *lists) checkAll(t *testing.T, f *seq.Forest) {
	t.Helper()
	for i, r := range l.rows {
		for k := range r {
			l.checkRow(t, f, r, k)
		}
		other := l.rows[(i+1)%len(l.rows)]
		same, err := f.Same(r[len(r)/2], other[len(other)/2])
		check(t, "Same", same, err, len(l.rows) == 1, 0)
	}
}

// checkRows fails unless the sequences are these, and every item stands in one.
func checkRows(t *testing.T, f *seq.Forest, values []int64, rows ...[]int) {
	t.Helper()
	(&lists{rows: rows, values: values}).checkAll(t, f)
}

// SQ1: New.

func TestNew(t *testing.T) {
	for _, n := range []int{1, 2, 3, 64, 100} {
		newLists(n).checkAll(t, made(t, n))
	}
	for _, n := range []int{1 << 16, seq.MaxItems - 1, seq.MaxItems} {
		f := made(t, n)
		l := &lists{values: make([]int64, n)}
		for _, x := range []int{n - 1, 0, 1, n / 2} {
			l.checkRow(t, f, []int{x}, 0)
		}
		got, err := f.Rank(n)
		check(t, "Rank of the item behind the last", got, err, 0, api.ErrRange)
	}
}

func TestNewWrong(t *testing.T) {
	for _, n := range []int{0, -1, math.MinInt, math.MinInt32, seq.MaxItems + 1, math.MaxInt32, 1<<32 + 1, math.MaxInt} {
		f, err := seq.New(n)
		checkErr(t, "New", err, api.ErrArg)
		if f != nil {
			t.Fatalf("New(%d): %v beside an error", n, f)
		}
	}
}

// SQ1: Join.

func TestExample(t *testing.T) {
	f := made(t, 3)
	row(t, f, 0, 1, 2)
	checkErr(t, "Reverse", f.Reverse(0), 0)
	checkRows(t, f, make([]int64, 3), []int{2, 1, 0})
}

// b's sequence stands behind a's, whichever item of them is named.
func TestJoin(t *testing.T) {
	for _, a := range []int{0, 1, 2} {
		for _, b := range []int{3, 4, 5} {
			f := made(t, 7)
			row(t, f, 0, 1, 2)
			row(t, f, 3, 4, 5)
			checkErr(t, "Join", f.Join(b, a), 0)
			checkRows(t, f, make([]int64, 7), []int{3, 4, 5, 0, 1, 2}, []int{6})
		}
	}
}

func TestJoinSame(t *testing.T) {
	f := made(t, 5)
	row(t, f, 3, 1, 0)
	row(t, f, 4, 2)
	for range 2 {
		for _, r := range [][]int{{3, 1, 0}, {4, 2}} {
			for _, a := range r {
				for _, b := range r {
					checkErr(t, "Join of one sequence", f.Join(a, b), api.ErrSame)
					checkRows(t, f, make([]int64, 5), []int{3, 1, 0}, []int{4, 2})
				}
			}
		}
	}
	one := made(t, 1)
	checkErr(t, "Join of an item and itself", one.Join(0, 0), api.ErrSame)
	checkRows(t, one, make([]int64, 1), []int{0})
}

// SQ1: Cut.

func TestCut(t *testing.T) {
	for x := range 6 {
		f := made(t, 6)
		all := []int{0, 1, 2, 3, 4, 5}
		row(t, f, all...)
		checkCut(t, f, x, x > 0)
		if x == 0 {
			checkRows(t, f, make([]int64, 6), all)
		} else {
			checkRows(t, f, make([]int64, 6), all[:x], all[x:])
		}
		checkCut(t, f, x, false)
		checkCut(t, f, 0, false)
		if x > 0 {
			checkErr(t, "Join", f.Join(5, 0), 0)
			checkRows(t, f, make([]int64, 6), slices.Concat(all[x:], all[:x]))
		}
	}
	one := made(t, 1)
	checkCut(t, one, 0, false)
	checkRows(t, one, make([]int64, 1), []int{0})
}

// SQ1: Reverse.

func TestReverse(t *testing.T) {
	for x := range 4 {
		f := made(t, 5)
		row(t, f, 0, 1, 2, 3)
		checkErr(t, "Reverse", f.Reverse(x), 0)
		checkRows(t, f, make([]int64, 5), []int{3, 2, 1, 0}, []int{4})
		checkErr(t, "Reverse", f.Reverse(3-x), 0)
		checkRows(t, f, make([]int64, 5), []int{0, 1, 2, 3}, []int{4})
		checkErr(t, "Reverse of an item alone", f.Reverse(4), 0)
		checkRows(t, f, make([]int64, 5), []int{0, 1, 2, 3}, []int{4})
	}
}

// Turned, joined, turned and cut, without a question between.
func TestReverseJoinCut(t *testing.T) {
	f := made(t, 8)
	row(t, f, 0, 1, 2, 3)
	row(t, f, 4, 5, 6)
	checkErr(t, "Reverse", f.Reverse(2), 0)
	checkErr(t, "Join", f.Join(0, 5), 0)
	checkErr(t, "Reverse", f.Reverse(6), 0)
	checkErr(t, "Join", f.Join(3, 7), 0)
	checkCut(t, f, 0, true)
	checkErr(t, "Reverse", f.Reverse(7), 0)
	checkRows(t, f, make([]int64, 8), []int{6, 5, 4}, []int{7, 3, 2, 1, 0})
	checkErr(t, "Reverse", f.Reverse(1), 0)
	checkErr(t, "Reverse", f.Reverse(1), 0)
	checkErr(t, "Join", f.Join(4, 1), 0)
	checkCut(t, f, 3, true)
	checkRows(t, f, make([]int64, 8), []int{6, 5, 4, 7}, []int{3, 2, 1, 0})
	checkCut(t, f, 0, true)
	checkRows(t, f, make([]int64, 8), []int{6, 5, 4, 7}, []int{3, 2, 1}, []int{0})
}

// SQ1: Set.

func TestSet(t *testing.T) {
	f := made(t, 4)
	row(t, f, 2, 0, 1)
	for _, v := range []int64{5, -5, 0, lowest, highest, 5} {
		checkErr(t, "Set", f.Set(0, v), 0)
		checkErr(t, "Set", f.Set(3, -1), 0)
		checkRows(t, f, []int64{v, 0, 0, -1}, []int{2, 0, 1}, []int{3})
	}
}

// SQ2: Sum.

func TestSumBeyond(t *testing.T) {
	f := made(t, 4)
	set(t, f, highest, 1, highest, lowest)
	checkSum(t, f, 0, highest)
	checkErr(t, "Join", f.Join(0, 1), 0)
	checkSum(t, f, 0, lowest)
	checkErr(t, "Join", f.Join(2, 0), 0)
	checkSum(t, f, 0, -1)
	checkErr(t, "Join", f.Join(1, 3), 0)
	checkSum(t, f, 0, highest)
	set(t, f, lowest, 0, 0, lowest)
	checkSum(t, f, 2, 0)
	set(t, f, -1)
	checkSum(t, f, 2, highest)
}

// SQ2: Least and Most.

// Of several items of the value the first one is told, and which one that is
// changes when the sequence is turned, cut or joined.
func TestBestFirst(t *testing.T) {
	for _, c := range []struct {
		values              []int64
		least, most         int
		leastBack, mostBack int
	}{
		{[]int64{0, 0, 0, 0, 0}, 0, 0, 4, 4},
		{[]int64{3, 1, 3, 1, 2}, 1, 0, 3, 2},
		{[]int64{2, 1, 3, 1, 3}, 1, 2, 3, 4},
		{[]int64{highest, highest, highest, highest, highest}, 0, 0, 4, 4},
		{[]int64{lowest, lowest, lowest, lowest, lowest}, 0, 0, 4, 4},
		{[]int64{0, highest, lowest, highest, lowest}, 2, 1, 4, 3},
		{[]int64{highest, highest - 1, highest, highest - 1, highest}, 1, 0, 3, 4},
		{[]int64{lowest + 1, lowest, lowest, lowest + 1, lowest}, 1, 0, 4, 3},
		{[]int64{-1, 0, 1, 0, -1}, 0, 2, 4, 2},
	} {
		for x := range 5 {
			f := made(t, 5)
			set(t, f, c.values...)
			row(t, f, 0, 1, 2, 3, 4)
			checkBest(t, f, x, c.least, c.most)
			checkErr(t, "Reverse", f.Reverse(x), 0)
			checkBest(t, f, x, c.leastBack, c.mostBack)
			checkErr(t, "Reverse", f.Reverse(4-x), 0)
			checkBest(t, f, x, c.least, c.most)
		}
	}
}

func TestBestAlone(t *testing.T) {
	f := made(t, 3)
	for _, v := range []int64{0, lowest, highest, -1, 1} {
		for x := range 3 {
			checkErr(t, "Set", f.Set(x, v), 0)
			checkBest(t, f, x, x, x)
		}
	}
}

// SQ2: List is new memory, spare room too.

func TestListAlone(t *testing.T) {
	f := made(t, 5)
	row(t, f, 4, 3, 2)
	a, _ := f.List(3)
	b, _ := f.List(3)
	a = a[:cap(a)]
	for i := range a {
		a[i] = -7
	}
	want := []int{4, 3, 2}
	if !slices.Equal(b, want) {
		t.Fatalf("List behind a write into another answer: %v, want %v", b, want)
	}
	checkRows(t, f, make([]int64, 5), want, []int{0}, []int{1})
	checkErr(t, "Reverse", f.Reverse(4), 0)
	checkErr(t, "Join", f.Join(4, 0), 0)
	if !slices.Equal(b, want) {
		t.Fatalf("List behind a change: %v, want %v", b, want)
	}
	for _, v := range a {
		if v != -7 {
			t.Fatalf("an answer of List was changed: %v", a)
		}
	}
}

// SQ1, SQ2: an item that is none, and a nil Forest.

// checkNone fails unless every call on an item answers that error; other is an
// item that is.
func checkNone(t *testing.T, f *seq.Forest, x, other int, want api.Errno) {
	t.Helper()
	for _, y := range []int{x, other} {
		checkErr(t, "Join", f.Join(x, y), want)
		checkErr(t, "Join", f.Join(y, x), want)
		same, err := f.Same(x, y)
		check(t, "Same", same, err, false, want)
		same, err = f.Same(y, x)
		check(t, "Same", same, err, false, want)
	}
	cut, err := f.Cut(x)
	check(t, "Cut", cut, err, false, want)
	checkErr(t, "Reverse", f.Reverse(x), want)
	checkErr(t, "Set", f.Set(x, 9), want)
	for _, k := range []int{0, 1, -1, math.MinInt, math.MaxInt} {
		got, err := f.At(x, k)
		check(t, "At", got, err, 0, want)
	}
	for _, ask := range []func(int) (int, error){f.Rank, f.Size, f.Least, f.Most} {
		got, err := ask(x)
		check(t, "a question", got, err, 0, want)
	}
	sum, err := f.Sum(x)
	check(t, "Sum", sum, err, 0, want)
	list, err := f.List(x)
	checkErr(t, "List", err, want)
	if len(list) != 0 {
		t.Fatalf("List(%d): %v beside an error", x, list)
	}
}

func TestNoItem(t *testing.T) {
	for _, n := range []int{1, 2, 3, 64} {
		f, l := made(t, n), newLists(n)
		for range 2 {
			for _, x := range append([]int{n, n + 1, 2*n + 1}, far...) {
				checkNone(t, f, x, n-1, api.ErrRange)
				checkNone(t, f, x, 0, api.ErrRange)
			}
			l.checkAll(t, f)
			for x := range n - 1 {
				checkErr(t, "Join", f.Join(n-1, x), l.join(n-1, x))
				checkErr(t, "Set", f.Set(x, int64(x)), l.set(x, int64(x)))
			}
		}
	}
	f := made(t, seq.MaxItems)
	for _, x := range far {
		checkNone(t, f, x, seq.MaxItems-1, api.ErrRange)
	}
}

func TestNil(t *testing.T) {
	var f *seq.Forest
	for _, x := range append([]int{0, 1, seq.MaxItems - 1}, far...) {
		checkNone(t, f, x, 0, api.ErrArg)
	}
}

// SQ3, and rule 4.

// steps are all that can be done with n items.
func steps(n int) []func(t *testing.T, f *seq.Forest, l *lists) {
	var out []func(t *testing.T, f *seq.Forest, l *lists)
	for a := range n {
		for b := range n {
			out = append(out, func(t *testing.T, f *seq.Forest, l *lists) {
				checkErr(t, "Join", f.Join(a, b), l.join(a, b))
			})
		}
		out = append(out, func(t *testing.T, f *seq.Forest, l *lists) {
			want, wantErr := l.cut(a)
			got, err := f.Cut(a)
			check(t, "Cut", got, err, want, wantErr)
		}, func(t *testing.T, f *seq.Forest, l *lists) {
			checkErr(t, "Reverse", f.Reverse(a), l.reverse(a))
		})
	}
	return out
}

// All ways of some steps with few items; nothing is asked ahead of the last one.
func TestEachWay(t *testing.T) {
	eachWay(t, 3, 4)
	eachWay(t, 4, 3)
}

func eachWay(t *testing.T, n, many int) {
	all := steps(n)
	way := make([]int, many)
	for {
		f, l := made(t, n), newLists(n)
		for x := range n {
			v := int64(x % 2)
			checkErr(t, "Set", f.Set(x, v), l.set(x, v))
		}
		checkErr(t, "Join", f.Join(0, 1), l.join(0, 1))
		checkErr(t, "Join", f.Join(0, n-1), l.join(0, n-1))
		for _, i := range way {
			all[i](t, f, l)
		}
		l.checkAll(t, f)
		i := 0
		for ; i < many && way[i] == len(all)-1; i++ {
			way[i] = 0
		}
		if i == many {
			return
		}
		way[i]++
	}
}

// pair is a Forest, and one that is handled alike, but is asked far less often:
// what was asked must not be seen later on.
type pair struct{ often, seldom *seq.Forest }

// step does one step on both, and on the plain lists.
func (p pair) step(t *testing.T, r *rand.Rand, l *lists, join int) {
	t.Helper()
	n := len(l.values)
	a, b := r.Intn(n+2)-1, r.Intn(n+2)-1
	switch k := r.Intn(16); {
	case k < join:
		want := l.join(a, b)
		checkErr(t, "Join", p.often.Join(a, b), want)
		checkErr(t, "Join", p.seldom.Join(a, b), want)
	case k < 10:
		want, wantErr := l.cut(a)
		got, err := p.often.Cut(a)
		check(t, "Cut", got, err, want, wantErr)
		got, err = p.seldom.Cut(a)
		check(t, "Cut", got, err, want, wantErr)
	case k < 13:
		want := l.reverse(a)
		checkErr(t, "Reverse", p.often.Reverse(a), want)
		checkErr(t, "Reverse", p.seldom.Reverse(a), want)
	default:
		v := []int64{lowest, -3, 0, 4, highest, highest - 1}[r.Intn(6)]
		want := l.set(a, v)
		checkErr(t, "Set", p.often.Set(a, v), want)
		checkErr(t, "Set", p.seldom.Set(a, v), want)
	}
}

func TestAsLists(t *testing.T) {
	for _, n := range []int{1, 2, 3, 5, 17, 64, 150} {
		r := rand.New(rand.NewSource(int64(n)))
		p, l := pair{made(t, n), made(t, n)}, newLists(n)
		for step := range 3000 {
			// Phases of few long sequences, and of many short ones.
			p.step(t, r, l, 3+step/500%2*6)
			own := l.rows[r.Intn(len(l.rows))]
			l.checkRow(t, p.often, own, r.Intn(len(own)))
			if step%250 == 249 {
				l.checkAll(t, p.often)
				l.checkAll(t, p.seldom)
			}
		}
	}
}

// Each item stands in just one sequence.
func TestEachInOne(t *testing.T) {
	const n = 120
	r := rand.New(rand.NewSource(5))
	f := made(t, n)
	for step := range 4000 {
		switch a, b := r.Intn(n), r.Intn(n); r.Intn(4) {
		case 0, 1:
			f.Join(a, b)
		case 2:
			f.Cut(a)
		default:
			f.Reverse(a)
		}
		if step%20 != 0 {
			continue
		}
		in := make([]int, n)
		for x := range n {
			list, err := f.List(x)
			checkErr(t, "List", err, 0)
			k := slices.Index(list, x)
			rank, err := f.Rank(x)
			check(t, "Rank", rank, err, k, 0)
			if k == 0 {
				for _, y := range list {
					in[y]++
				}
			}
		}
		for x, count := range in {
			if count != 1 {
				t.Fatalf("item %d stands in %d sequences", x, count)
			}
		}
	}
}

// long makes one sequence of n items.
func long(t *testing.T, n int) *seq.Forest {
	t.Helper()
	f := made(t, n)
	for x := 1; x < n; x++ {
		checkErr(t, "Join", f.Join(x-1, x), 0)
	}
	return f
}

// The items of a great sequence one by one, over and over: a tree that does not
// get shallower by it would take some hours.
func TestOneByOne(t *testing.T) {
	const n = 1 << 18
	f := long(t, n)
	for range 4 {
		for x := range n {
			rank, err := f.Rank(x)
			check(t, "Rank", rank, err, x, 0)
		}
		for x := n - 1; x >= 0; x-- {
			got, err := f.At(0, x)
			check(t, "At", got, err, x, 0)
		}
	}
}

// Of a great sequence each call needs few steps: a walk over all items would
// take some hours.
func TestAtOnce(t *testing.T) {
	const n = 1 << 17
	f := long(t, n)
	checkErr(t, "Set", f.Set(n/3, -1), 0)
	checkErr(t, "Set", f.Set(n/2, 2), 0)
	// The front goes to the end, turned round, and all is turned round.
	first, turned := 0, false
	for i := range 1 << 16 {
		x := (first + 1 + i%5) % n
		if turned {
			x = (first + n - 1 - i%5) % n
		}
		checkCut(t, f, x, true)
		checkErr(t, "Join", f.Join(x, first), 0)
		first = x
		got, err := f.At(x, n-1)
		checkErr(t, "At", err, 0)
		rank, err := f.Rank(got)
		check(t, "Rank", rank, err, n-1, 0)
		checkErr(t, "Reverse", f.Reverse(x), 0)
		first, turned = got, !turned
		checkBest(t, f, x, n/3, n/2)
		checkSum(t, f, x, 1)
		size, err := f.Size(got)
		check(t, "Size", size, err, n, 0)
		same, err := f.Same(i, n-1)
		check(t, "Same", same, err, true, 0)
	}
}

// A sequence of the most items there may be, joined one by one, so that its tree
// is as deep as one may be.
func TestMostItems(t *testing.T) {
	const n = seq.MaxItems
	f := made(t, n)
	for x := 1; x < n; x++ {
		if err := f.Join(x, x-1); err != nil {
			t.Fatalf("Join(%d, %d): %v", x, x-1, err)
		}
	}
	checkErr(t, "Join of one sequence", f.Join(0, n-1), api.ErrSame)
	checkErr(t, "Reverse", f.Reverse(n/2), 0)
	for _, x := range []int{0, 1, n / 2, n - 2, n - 1} {
		got, err := f.At(n/3, x)
		check(t, "At", got, err, x, 0)
		got, err = f.Rank(x)
		check(t, "Rank", got, err, x, 0)
	}
	got, err := f.Size(0)
	check(t, "Size", got, err, n, 0)
	checkBest(t, f, n-1, 0, 0)
	list, err := f.List(n / 2)
	checkErr(t, "List", err, 0)
	if len(list) != n {
		t.Fatalf("List: %d items, want %d", len(list), n)
	}
	for k, x := range list {
		if k != x {
			t.Fatalf("List: %d at %d", x, k)
		}
	}
	checkCut(t, f, n-1, true)
	got, err = f.Size(0)
	check(t, "Size", got, err, n-1, 0)
}
