package slots_test

import (
	"errors"
	"math"
	"math/rand"
	"slices"
	"testing"

	"plait/api"
	"plait/slots"
)

// sizes stand at the edges of what a word of marks, and a word of such words, holds.
var sizes = []int{
	1, 2, 3, 63, 64, 65, 127, 128, 129, 4095, 4096, 4097, 1<<18 - 1, 1 << 18, 1<<18 + 1,
	api.MaxSlots - 1, api.MaxSlots,
}

// far are places that no Slots has.
var far = []int{-1, -2, -64, math.MinInt, math.MinInt32, api.MaxSlots, api.MaxSlots + 1, math.MaxInt32, math.MaxInt - 1, math.MaxInt}

// checkErr fails unless err is the number want (0: nil), as errors.As finds it.
func checkErr(t *testing.T, what string, err error, want api.Errno) {
	t.Helper()
	if want == 0 {
		if err != nil {
			t.Fatalf("%s: error %v, want none", what, err)
		}
		return
	}
	var e api.Errno
	if !errors.As(err, &e) || e != want {
		t.Fatalf("%s: error %v, want %v", what, err, want)
	}
}

func made(t *testing.T, n int) *slots.Slots {
	t.Helper()
	s, err := slots.New(n)
	checkErr(t, "New", err, 0)
	if s == nil {
		t.Fatalf("New(%d): nil beside no error", n)
	}
	return s
}

func claim(t *testing.T, s *slots.Slots, places ...int) {
	t.Helper()
	for _, at := range places {
		checkErr(t, "Claim", s.Claim(at), 0)
	}
}

func checkTake(t *testing.T, s *slots.Slots, want int, wantErr api.Errno) {
	t.Helper()
	at, err := s.Take()
	checkErr(t, "Take", err, wantErr)
	if at != want {
		t.Fatalf("Take: %d, want %d", at, want)
	}
}

func checkNext(t *testing.T, s *slots.Slots, from, want int, wantOK bool) {
	t.Helper()
	if at, ok := s.Next(from); at != want || ok != wantOK {
		t.Fatalf("Next(%d): %d, %v, want %d, %v", from, at, ok, want, wantOK)
	}
}

// checkHolds fails unless just these places are taken, as every question tells it.
func checkHolds(t *testing.T, s *slots.Slots, size int, want ...int) {
	t.Helper()
	if got := s.Size(); got != size {
		t.Fatalf("Size: %d, want %d", got, size)
	}
	if got := s.Len(); got != len(want) {
		t.Fatalf("Len: %d, want %d", got, len(want))
	}
	if got := s.All(); !slices.Equal(got, want) {
		t.Fatalf("All: %v, want %v", got, want)
	}
	for _, at := range want {
		if !s.Has(at) {
			t.Fatalf("Has(%d): false, want true", at)
		}
	}
}

// SL1: New.

func TestNew(t *testing.T) {
	for _, n := range sizes {
		checkHolds(t, made(t, n), n)
	}
}

func TestNewWrong(t *testing.T) {
	for _, n := range []int{0, -1, -64, math.MinInt, math.MinInt32, api.MaxSlots + 1, math.MaxInt32, math.MaxInt} {
		s, err := slots.New(n)
		checkErr(t, "New", err, api.ErrArg)
		if s != nil {
			t.Fatalf("New(%d): %v beside an error", n, s)
		}
	}
}

// SL1: Take.

func TestTakeExample(t *testing.T) {
	s := made(t, 4)
	for i := range 3 {
		checkTake(t, s, i, 0)
	}
	checkErr(t, "Free", s.Free(1), 0)
	checkHolds(t, s, 4, 0, 2)
	checkTake(t, s, 1, 0)
	checkTake(t, s, 3, 0)
	checkHolds(t, s, 4, 0, 1, 2, 3)
}

// All places taken one by one; each one alone given back, and taken again.
func TestTakeAll(t *testing.T) {
	for _, n := range sizes {
		s := made(t, n)
		for i := range n {
			checkTake(t, s, i, 0)
		}
		checkTake(t, s, 0, api.ErrFull)
		if s.Len() != n || !s.Has(0) || !s.Has(n-1) {
			t.Fatalf("%d places: an error changed something", n)
		}
		for i := 0; i < n; i += 1 + i/3 {
			checkErr(t, "Free", s.Free(i), 0)
			checkTake(t, s, i, 0)
			checkTake(t, s, 0, api.ErrFull)
		}
		checkErr(t, "Free", s.Free(n-1), 0)
		checkTake(t, s, n-1, 0)
	}
}

func TestTakePassesClaimed(t *testing.T) {
	s := made(t, 300)
	for i := range 200 {
		if i != 70 && i != 150 {
			claim(t, s, i)
		}
	}
	claim(t, s, 201)
	for _, want := range []int{70, 150, 200, 202, 203} {
		checkTake(t, s, want, 0)
	}
}

// SL1: Claim.

func TestClaim(t *testing.T) {
	for _, n := range sizes {
		s := made(t, n)
		claim(t, s, n-1)
		checkHolds(t, s, n, n-1)
		if n > 1 {
			claim(t, s, 0)
			checkHolds(t, s, n, 0, n-1)
		}
	}
}

func TestClaimWrong(t *testing.T) {
	for _, n := range sizes {
		s := made(t, n)
		for range 2 {
			held := s.All()
			for _, at := range append([]int{n, n + 1, n + 63, n + 64}, far...) {
				checkErr(t, "Claim of no place", s.Claim(at), api.ErrRange)
			}
			for _, at := range held {
				checkErr(t, "Claim of a taken place", s.Claim(at), api.ErrSame)
			}
			checkHolds(t, s, n, held...)
			if len(held) == 0 {
				claim(t, s, n-1)
			}
		}
	}
}

func TestClaimTwice(t *testing.T) {
	s := made(t, 5)
	claim(t, s, 0, 4)
	checkTake(t, s, 1, 0)
	for range 2 {
		for _, at := range []int{0, 1, 4} {
			checkErr(t, "Claim of a taken place", s.Claim(at), api.ErrSame)
		}
	}
	checkHolds(t, s, 5, 0, 1, 4)
	checkErr(t, "Free", s.Free(4), 0)
	claim(t, s, 4)
	checkHolds(t, s, 5, 0, 1, 4)
}

// SL1: Free.

func TestFree(t *testing.T) {
	for _, n := range sizes {
		s := made(t, n)
		claim(t, s, n-1)
		checkErr(t, "Free", s.Free(n-1), 0)
		checkHolds(t, s, n)
		checkTake(t, s, 0, 0)
		checkErr(t, "Free", s.Free(0), 0)
		checkHolds(t, s, n)
		checkTake(t, s, 0, 0)
	}
}

func TestFreeWrong(t *testing.T) {
	for _, n := range sizes {
		s := made(t, n)
		for _, at := range append([]int{n, n + 1, n + 63, n + 64}, far...) {
			checkErr(t, "Free of no place", s.Free(at), api.ErrRange)
		}
		for _, at := range []int{0, n / 2, n - 1} {
			checkErr(t, "Free of a free place", s.Free(at), api.ErrApart)
		}
		checkHolds(t, s, n)
		checkTake(t, s, 0, 0)
	}
}

func TestFreeTwice(t *testing.T) {
	s := made(t, 5)
	claim(t, s, 0, 1, 4)
	for _, at := range []int{1, 4} {
		checkErr(t, "Free", s.Free(at), 0)
		checkErr(t, "Free again", s.Free(at), api.ErrApart)
		checkErr(t, "Free again", s.Free(at), api.ErrApart)
	}
	checkHolds(t, s, 5, 0)
	for _, want := range []int{1, 2, 3, 4} {
		checkTake(t, s, want, 0)
	}
	checkTake(t, s, 0, api.ErrFull)
}

// SL2: Has.

func TestHas(t *testing.T) {
	for _, n := range sizes {
		s := made(t, n)
		for range n {
			if _, err := s.Take(); err != nil {
				t.Fatal(err)
			}
		}
		for _, at := range append([]int{n, n + 1, n + 63, n + 64}, far...) {
			if s.Has(at) {
				t.Fatalf("%d places, all taken: Has(%d)", n, at)
			}
		}
		if !s.Has(0) || !s.Has(n-1) || !s.Has(n/2) {
			t.Fatalf("%d places, all taken: Has tells false", n)
		}
		checkErr(t, "Free", s.Free(n/2), 0)
		if s.Has(n / 2) {
			t.Fatalf("%d places: Has(%d) of a free one", n, n/2)
		}
	}
}

// SL2: All.

func TestAllAlone(t *testing.T) {
	s := made(t, 200)
	claim(t, s, 130, 7, 64)
	a, b := s.All(), s.All()
	a = a[:cap(a)]
	for i := range a {
		a[i] = -5
	}
	if want := []int{7, 64, 130}; !slices.Equal(b, want) {
		t.Fatalf("All behind a write into another answer: %v, want %v", b, want)
	}
	checkHolds(t, s, 200, 7, 64, 130)
	claim(t, s, 8)
	if want := []int{7, 64, 130}; !slices.Equal(b, want) {
		t.Fatalf("All behind a Claim: %v, want %v", b, want)
	}
}

// SL2: Next.

func TestNext(t *testing.T) {
	for _, n := range sizes {
		s := made(t, n)
		for _, from := range []int{math.MinInt, -1, 0, n - 1, n, n + 1, math.MaxInt} {
			checkNext(t, s, from, 0, false)
		}
		claim(t, s, n-1)
		for _, from := range []int{math.MinInt, math.MinInt32, -1, 0, n / 2, n - 1} {
			checkNext(t, s, from, n-1, true)
		}
		for _, from := range []int{n, n + 1, n + 63, n + 64, math.MaxInt32, math.MaxInt - 1, math.MaxInt} {
			checkNext(t, s, from, 0, false)
		}
		if n == 1 {
			continue
		}
		claim(t, s, 0)
		checkNext(t, s, -1, 0, true)
		checkNext(t, s, 0, 0, true)
		checkNext(t, s, 1, n-1, true)
		checkErr(t, "Free", s.Free(n-1), 0)
		checkNext(t, s, 1, 0, false)
		checkNext(t, s, n-1, 0, false)
	}
}

func TestNextFromEach(t *testing.T) {
	const n = 5000
	taken := []int{0, 5, 62, 63, 64, 127, 128, 1000, 4094, 4095, 4096, 4160, 4999}
	s := made(t, n)
	claim(t, s, taken...)
	for from := -3; from < n+3; from++ {
		i, _ := slices.BinarySearch(taken, from)
		if i == len(taken) {
			checkNext(t, s, from, 0, false)
		} else {
			checkNext(t, s, from, taken[i], true)
		}
	}
}

// SL2: a nil Slots.

func TestNil(t *testing.T) {
	var s *slots.Slots
	checkTake(t, s, 0, api.ErrArg)
	for _, at := range append([]int{0, 1}, far...) {
		checkErr(t, "Claim of nil", s.Claim(at), api.ErrArg)
		checkErr(t, "Free of nil", s.Free(at), api.ErrArg)
		if s.Has(at) {
			t.Fatalf("Has(%d) of nil", at)
		}
		checkNext(t, s, at, 0, false)
	}
	checkHolds(t, s, 0)
}

// SL3, and rule 4: two that are handled alike by turns are alike, and each is as
// a plain list tells it.

func TestAsList(t *testing.T) {
	for _, n := range []int{1, 2, 63, 64, 65, 130, 4097, 9000} {
		r := rand.New(rand.NewSource(int64(n)))
		s, other := made(t, n), made(t, n)
		taken := make([]bool, n)
		for step := range 6000 {
			// Phases in which nearly all is taken, or nearly nothing is.
			full := step/1500%2 == 0
			at := r.Intn(n+4) - 2
			switch k := r.Intn(4); {
			case k == 0:
				checkTakeAsList(t, s, taken)
				other.Take()
			case k%2 == 1 && full:
				checkErr(t, "Claim", s.Claim(at), claimWant(taken, at))
				other.Claim(at)
				if at >= 0 && at < n {
					taken[at] = true
				}
			default:
				checkErr(t, "Free", s.Free(at), freeWant(taken, at))
				other.Free(at)
				if at >= 0 && at < n {
					taken[at] = false
				}
			}
			if step%97 == 0 {
				want := places(taken)
				checkHolds(t, s, n, want...)
				checkHolds(t, other, n, want...)
			}
		}
	}
}

// A whole Slots filled by Take, with the places that are given back found lowest first.
func TestTakeLowest(t *testing.T) {
	const n = 1<<12 + 200
	r := rand.New(rand.NewSource(1))
	s := made(t, n)
	for range n {
		s.Take()
	}
	for range 20 {
		back := r.Perm(n)[:1+r.Intn(300)]
		for _, at := range back {
			checkErr(t, "Free", s.Free(at), 0)
		}
		slices.Sort(back)
		for _, at := range back {
			checkTake(t, s, at, 0)
		}
		checkTake(t, s, 0, api.ErrFull)
	}
}

// At once: of the greatest one, whose free place is the last, or whose taken one
// is, each call needs few steps; a walk over all places would take some hours.
func TestAtOnce(t *testing.T) {
	const n = api.MaxSlots
	s := made(t, n)
	claim(t, s, n-1)
	for range 1 << 20 {
		checkNext(t, s, 0, n-1, true)
	}
	for range n - 1 {
		s.Take()
	}
	for range 1 << 20 {
		checkErr(t, "Free", s.Free(n-1), 0)
		checkTake(t, s, n-1, 0)
	}
}

func checkTakeAsList(t *testing.T, s *slots.Slots, taken []bool) {
	t.Helper()
	at := slices.Index(taken, false)
	if at < 0 {
		checkTake(t, s, 0, api.ErrFull)
		return
	}
	checkTake(t, s, at, 0)
	taken[at] = true
}

func claimWant(taken []bool, at int) api.Errno {
	switch {
	case at < 0 || at >= len(taken):
		return api.ErrRange
	case taken[at]:
		return api.ErrSame
	}
	return 0
}

func freeWant(taken []bool, at int) api.Errno {
	switch {
	case at < 0 || at >= len(taken):
		return api.ErrRange
	case !taken[at]:
		return api.ErrApart
	}
	return 0
}

func places(taken []bool) []int {
	var out []int
	for at, is := range taken {
		if is {
			out = append(out, at)
		}
	}
	return out
}
