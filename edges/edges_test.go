package edges_test

import (
	"cmp"
	"errors"
	"math"
	"math/big"
	"math/rand"
	"slices"
	"testing"

	"plait/api"
	"plait/edges"
)

// most is how many slots there are at most.
const most = 1 << 20

// far are numbers that are no slot; some of them are one, cut to 32 bits, or to
// 20.
var far = []int{-1, -2, -most, -most + 5, math.MinInt, math.MinInt + 1, math.MinInt32, -1 << 32, -1 << 62, most, most + 1, 2 * most, math.MaxInt32, 1 << 31, math.MaxUint32, 1 << 32, 1<<32 + 5, 1 << 62, math.MaxInt - 1, math.MaxInt}

// weights and places are ordinary ones, and those at the edges.
var (
	weights = []int32{math.MinInt32, math.MinInt32 + 1, -most - 1, -most, -most + 1, -2, -1, 0, 1, 2, 7, most - 1, most, most + 1, math.MaxInt32 - 1, math.MaxInt32}
	places  = []int{0, 1, 2, 5, most/2 - 1, most / 2, most - 2, most - 1}
)

// checkErr fails unless err is the number want (0: nil), as errors.As finds it.
func checkErr(t *testing.T, what string, err error, want api.Errno) {
	t.Helper()
	if want == 0 {
		if err != nil {
			t.Fatalf("%s: error %v, want none", what, err)
		}
		return
	}
	var e api.Errno
	if !errors.As(err, &e) || e != want {
		t.Fatalf("%s: error %v, want %v", what, err, want)
	}
}

// check fails unless a call answered just that.
func check[T comparable](t *testing.T, what string, got, want T) {
	t.Helper()
	if got != want {
		t.Fatalf("%s: %v, want %v", what, got, want)
	}
}

// key is a Key that there is.
func key(t *testing.T, w int32, slot int) int64 {
	t.Helper()
	k, err := edges.Key(w, slot)
	checkErr(t, "Key", err, 0)
	return k
}

// parted is a key's weight, slot and whether it is an edge's, reckoned with
// numbers that have no bound.
func parted(k int64) (w int32, slot int, valid bool) {
	quotient, rest := new(big.Int).DivMod(big.NewInt(k), big.NewInt(most), new(big.Int))
	low := new(big.Int).Mod(quotient, big.NewInt(1<<32)).Int64()
	if low >= 1<<31 {
		low -= 1 << 32
	}
	return int32(low), int(rest.Int64()), quotient.Cmp(big.NewInt(low)) == 0
}

// checkParts fails unless Weight, Slot and Valid of a key are those of the rule.
func checkParts(t *testing.T, k int64) {
	t.Helper()
	w, slot, valid := parted(k)
	check(t, "Weight", edges.Weight(k), w)
	check(t, "Slot", edges.Slot(k), slot)
	check(t, "Valid", edges.Valid(k), valid)
}

// TestExample: the example of chapter 13.
func TestExample(t *testing.T) {
	check(t, "Key", key(t, -1, 5), -1048571)
}

func TestKeyWritten(t *testing.T) {
	for _, c := range []struct {
		w    int32
		slot int
		want int64
	}{
		{0, 0, 0},
		{0, 1, 1},
		{0, most - 1, 1048575},
		{1, 0, 1048576},
		{-1, 0, -1048576},
		{-1, most - 1, -1},
		{-2, most - 1, -1048577},
		{5, 7, 5242887},
		{math.MaxInt32, 0, 2251799812636672},
		{math.MaxInt32, most - 1, 2251799813685247},
		{math.MinInt32, 0, -2251799813685248},
		{math.MinInt32, most - 1, -2251799812636673},
	} {
		check(t, "Key", key(t, c.w, c.slot), c.want)
		check(t, "Weight", edges.Weight(c.want), c.w)
		check(t, "Slot", edges.Slot(c.want), c.slot)
		check(t, "Valid", edges.Valid(c.want), true)
	}
}

func TestKeyRange(t *testing.T) {
	for _, w := range weights {
		for _, slot := range far {
			k, err := edges.Key(w, slot)
			checkErr(t, "Key", err, api.ErrRange)
			check(t, "Key beside an error", k, 0)
		}
	}
}

func TestPartsWritten(t *testing.T) {
	for _, c := range []struct {
		key   int64
		w     int32
		slot  int
		valid bool
	}{
		{0, 0, 0, true},
		{-1, -1, most - 1, true},
		{-1048577, -2, most - 1, true},
		{1<<51 - 1, math.MaxInt32, most - 1, true},
		{1 << 51, math.MinInt32, 0, false},
		{1<<51 + 3, math.MinInt32, 3, false},
		{-1 << 51, math.MinInt32, 0, true},
		{-1<<51 - 1, math.MaxInt32, most - 1, false},
		{1 << 52, 0, 0, false},
		{1<<52 + 1<<20 + 9, 1, 9, false},
		{-1 << 52, 0, 0, false},
		{-1<<52 - 1, -1, most - 1, false},
		{math.MaxInt64, -1, most - 1, false},
		{math.MaxInt64 - most, -2, most - 1, false},
		{math.MinInt64, 0, 0, false},
		{math.MinInt64 + 1, 0, 1, false},
	} {
		check(t, "Weight", edges.Weight(c.key), c.w)
		check(t, "Slot", edges.Slot(c.key), c.slot)
		check(t, "Valid", edges.Valid(c.key), c.valid)
		checkParts(t, c.key)
	}
}

// TestPartsNearPowers: keys at both sides of each power of 2, and of each
// multiple of 2^20 about 0 and about the bounds of the weights.
func TestPartsNearPowers(t *testing.T) {
	for bit := range 64 {
		for near := int64(-3); near <= 3; near++ {
			checkParts(t, int64(uint64(1)<<bit)+near)
			checkParts(t, -int64(uint64(1)<<bit)+near)
		}
	}
	for _, middle := range []int64{0, 1 << 51, -1 << 51, 1 << 52, -1 << 52} {
		for times := int64(-50); times <= 50; times++ {
			for near := int64(-2); near <= 2; near++ {
				checkParts(t, middle+times*most+near)
			}
		}
	}
}

func TestPartsAtRandom(t *testing.T) {
	source := rand.New(rand.NewSource(13))
	for range 200000 {
		k := int64(source.Uint64()) >> source.Intn(64)
		checkParts(t, k)
		if edges.Valid(k) {
			check(t, "Key of its parts", key(t, edges.Weight(k), edges.Slot(k)), k)
		}
	}
}

// TestEnds: all keys stand between Least and Most, which are none themselves.
func TestEnds(t *testing.T) {
	check(t, "Least", edges.Least(), -9223372036854775808)
	check(t, "Most", edges.Most(), 9223372036854775807)
	check(t, "Valid of Least", edges.Valid(edges.Least()), false)
	check(t, "Valid of Most", edges.Valid(edges.Most()), false)
	for _, w := range weights {
		for _, slot := range places {
			k := key(t, w, slot)
			check(t, "above Least", edges.Least() < k, true)
			check(t, "below Most", k < edges.Most(), true)
		}
	}
}

// edge is what a key is made of.
type edge struct {
	w    int32
	slot int
}

// inOrder is the order of the weights, and of one weight of the slots.
func inOrder(a, b edge) int {
	return cmp.Or(cmp.Compare(a.w, b.w), cmp.Compare(a.slot, b.slot))
}

// checkEdge fails unless a key can be parted into what it was made of.
func checkEdge(t *testing.T, e edge) int64 {
	t.Helper()
	k := key(t, e.w, e.slot)
	check(t, "parts", edge{edges.Weight(k), edges.Slot(k)}, e)
	check(t, "Valid", edges.Valid(k), true)
	return k
}

func TestOrder(t *testing.T) {
	var all []edge
	for _, w := range weights {
		for _, slot := range places {
			all = append(all, edge{w, slot})
		}
	}
	for _, a := range all {
		for _, b := range all {
			check(t, "order", cmp.Compare(checkEdge(t, a), checkEdge(t, b)), inOrder(a, b))
		}
	}
}

func TestOrderAtRandom(t *testing.T) {
	source := rand.New(rand.NewSource(14))
	list := make([]edge, 100000)
	for i := range list {
		list[i] = edge{int32(source.Uint32()) >> source.Intn(32), source.Intn(most) >> source.Intn(20)}
	}
	slices.SortFunc(list, inOrder)
	for i := 1; i < len(list); i++ {
		a, b := list[i-1], list[i]
		check(t, "order", cmp.Compare(checkEdge(t, a), checkEdge(t, b)), inOrder(a, b))
	}
}

// TestEverySlot: the keys of neighbouring weights follow one another, without a
// gap, over all slots.
func TestEverySlot(t *testing.T) {
	want := int64(-2 * most)
	for w := int32(-2); w <= 1; w++ {
		for slot := range most {
			k, err := edges.Key(w, slot)
			if k != want || err != nil || edges.Weight(k) != w || edges.Slot(k) != slot || !edges.Valid(k) {
				t.Fatalf("Key(%d, %d): %d, %v, of weight %d and slot %d, want %d", w, slot, k, err, edges.Weight(k), edges.Slot(k), want)
			}
			want++
		}
	}
}

// TestAlone: what is answered hangs on nothing that was asked ahead.
func TestAlone(t *testing.T) {
	before := key(t, -1, 5)
	for _, slot := range far {
		_, err := edges.Key(3, slot)
		checkErr(t, "Key", err, api.ErrRange)
	}
	check(t, "Key", key(t, -1, 5), before)
	check(t, "Least", edges.Least(), math.MinInt64)
	check(t, "Most", edges.Most(), math.MaxInt64)
}
