package wire_test

import (
	"bytes"
	"errors"
	"math"
	"testing"

	"plait/api"
	"plait/wire"
)

// wrongWidths are the numbers of bytes that no number has.
var wrongWidths = []int{0, -1, 9, 10, 16, 64, math.MinInt, math.MaxInt, math.MinInt32, math.MaxInt32}

// values stand at the edges of each width, and between them.
var values = []uint64{
	0, 1, 2, 127, 128, 255, 256, 0x1234, 1<<16 - 1, 1 << 16, 1<<24 - 1, 1 << 24,
	1<<31 - 1, 1 << 31, 1<<32 - 1, 1 << 32, 1<<40 + 7, 1<<56 - 1, 1 << 56,
	0x0102030405060708, 0xf1e2d3c4b5a69788, 1<<63 - 1, 1 << 63, math.MaxUint64,
}

// checkErr fails unless err is the number want (0: nil), as errors.As finds it.
func checkErr(t *testing.T, what string, err error, want api.Errno) {
	t.Helper()
	if want == 0 {
		if err != nil {
			t.Fatalf("%s: error %v, want none", what, err)
		}
		return
	}
	var e api.Errno
	if !errors.As(err, &e) || e != want {
		t.Fatalf("%s: error %v, want %v", what, err, want)
	}
}

// checkBytes fails unless the bytes are those asked for; nil and empty are the same.
func checkBytes(t *testing.T, what string, got, want []byte) {
	t.Helper()
	if !bytes.Equal(got, want) {
		t.Fatalf("%s: %v, want %v", what, got, want)
	}
}

// roomy are bytes with spare room behind; all is the whole memory, spare room too.
func roomy(b []byte) (short, all []byte) {
	all = make([]byte, len(b)+32)
	copy(all, b)
	for i := len(b); i < len(all); i++ {
		all[i] = 0xa5
	}
	return all[:len(b)], all
}

// scribble overwrites a list and its spare room.
func scribble(b []byte) {
	b = b[:cap(b)]
	for i := range b {
		b[i] ^= 0xff
	}
}

// checkAlone fails if the argument's memory was changed by the call, if writing
// into one of the answers changes the argument or another answer, or if writing
// into the argument changes an answer.
func checkAlone(t *testing.T, what string, arg, before []byte, answers ...[]byte) {
	t.Helper()
	checkBytes(t, what+": argument behind the call", arg, before)
	for i, a := range answers {
		held := snapshot(answers)
		scribble(a)
		checkBytes(t, what+": argument behind a write into an answer", arg, before)
		for j := range answers {
			if j != i {
				checkBytes(t, what+": the other answer behind a write", answers[j], held[j])
			}
		}
		copy(a, held[i])
	}
	held := snapshot(answers)
	scribble(arg)
	for i := range answers {
		checkBytes(t, what+": answer behind a write into the argument", answers[i], held[i])
	}
}

func snapshot(l [][]byte) [][]byte {
	out := make([][]byte, len(l))
	for i := range l {
		out[i] = bytes.Clone(l[i])
	}
	return out
}

// WI1: Put.

func TestPut(t *testing.T) {
	const v = 0x0102030405060708
	for _, c := range []struct {
		b    []byte
		v    uint64
		n    int
		want []byte
	}{
		{nil, v, 1, []byte{8}},
		{nil, v, 2, []byte{7, 8}},
		{nil, v, 3, []byte{6, 7, 8}},
		{nil, v, 4, []byte{5, 6, 7, 8}},
		{nil, v, 5, []byte{4, 5, 6, 7, 8}},
		{nil, v, 6, []byte{3, 4, 5, 6, 7, 8}},
		{nil, v, 7, []byte{2, 3, 4, 5, 6, 7, 8}},
		{nil, v, 8, []byte{1, 2, 3, 4, 5, 6, 7, 8}},
		{[]byte{}, 0, 1, []byte{0}},
		{[]byte{}, 0, 8, make([]byte, 8)},
		{[]byte("ab"), 2, 4, []byte{'a', 'b', 0, 0, 0, 2}},
		{[]byte{9}, 256, 1, []byte{9, 0}},
		{[]byte{9}, math.MaxUint64, 8, []byte{9, 255, 255, 255, 255, 255, 255, 255, 255}},
		{nil, 1 << 63, 8, []byte{128, 0, 0, 0, 0, 0, 0, 0}},
	} {
		checkBytes(t, "Put", wire.Put(c.b, c.v, c.n), c.want)
	}
}

func TestPutOfNoWidthIsTheBytesAlone(t *testing.T) {
	for _, n := range wrongWidths {
		for _, b := range [][]byte{nil, {}, {0}, []byte("abc")} {
			checkBytes(t, "Put", wire.Put(b, math.MaxUint64, n), b)
		}
	}
}

func TestPutStandsAlone(t *testing.T) {
	for _, n := range append([]int{1, 2, 3, 4, 5, 6, 7, 8}, wrongWidths...) {
		for _, text := range []string{"", "x", "abcdefghijkl"} {
			b, all := roomy([]byte(text))
			before := bytes.Clone(all)
			checkAlone(t, "Put", all, before, wire.Put(b, math.MaxUint64, n))
		}
	}
}

func TestPutTwiceBehindTheSameBytes(t *testing.T) {
	b := wire.Put(nil, 7, 1)
	one, two := wire.Put(b, 1, 4), wire.Put(b, 2, 4)
	checkBytes(t, "the first", one, []byte{7, 0, 0, 0, 1})
	checkBytes(t, "the second", two, []byte{7, 0, 0, 0, 2})
}

// WI1: Take.

func TestTake(t *testing.T) {
	b := []byte{1, 2, 3, 4, 5, 6, 7, 8, 9}
	var want uint64
	for n := 1; n <= 8; n++ {
		want = want<<8 | uint64(n)
		v, rest, err := wire.Take(b, n)
		checkErr(t, "Take", err, 0)
		if v != want {
			t.Fatalf("Take of %d bytes: %#x, want %#x", n, v, want)
		}
		checkBytes(t, "what is behind", rest, b[n:])
	}
}

func TestTakeOfJustEnough(t *testing.T) {
	for n := 1; n <= 8; n++ {
		v, rest, err := wire.Take(bytes.Repeat([]byte{255}, n), n)
		checkErr(t, "Take", err, 0)
		if want := uint64(math.MaxUint64) >> (64 - 8*n); v != want || len(rest) != 0 {
			t.Fatalf("Take of %d bytes 255: %#x, %v; want %#x and nothing", n, v, rest, want)
		}
	}
}

func TestTakeErrors(t *testing.T) {
	for _, n := range wrongWidths {
		// ErrArg is told first, even where the bytes end too soon.
		for _, size := range []int{0, 1, 8, 9, 20} {
			checkTakeFails(t, make([]byte, size), n, api.ErrArg)
		}
		checkTakeFails(t, nil, n, api.ErrArg)
	}
	for n := 1; n <= 8; n++ {
		checkTakeFails(t, nil, n, api.ErrEnd)
		for size := range n {
			checkTakeFails(t, bytes.Repeat([]byte{1}, size), n, api.ErrEnd)
		}
	}
	// Spare room is not bytes that are there.
	b, _ := roomy([]byte{1, 2, 3})
	checkTakeFails(t, b, 4, api.ErrEnd)
}

func checkTakeFails(t *testing.T, b []byte, n int, want api.Errno) {
	t.Helper()
	before := bytes.Clone(b)
	v, rest, err := wire.Take(b, n)
	checkErr(t, "Take", err, want)
	if v != 0 || len(rest) != 0 {
		t.Fatalf("Take(%v, %d): %d, %v beside an error", b, n, v, rest)
	}
	checkBytes(t, "argument behind Take", b, before)
}

func TestTakeStandsAlone(t *testing.T) {
	for n := 1; n <= 8; n++ {
		for extra := range 4 {
			b, all := roomy(bytes.Repeat([]byte{17}, n+extra))
			before := bytes.Clone(all)
			_, rest, err := wire.Take(b, n)
			checkErr(t, "Take", err, 0)
			checkAlone(t, "Take", all, before, rest)
		}
	}
}

// WI1: Signed.

func TestSigned(t *testing.T) {
	for _, c := range []struct {
		v    uint64
		want int32
	}{
		{0, 0},
		{1, 1},
		{255, 255},
		{1<<31 - 1, math.MaxInt32},
		{1 << 31, math.MinInt32},
		{1<<31 + 1, math.MinInt32 + 1},
		{1<<32 - 2, -2},
		{1<<32 - 1, -1},
		{1 << 32, 0},
		{1<<32 + 5, 5},
		{1<<32 + 1<<31, math.MinInt32},
		{1<<63 + 1<<31 - 1, math.MaxInt32},
		{1 << 63, 0},
		{math.MaxUint64, -1},
		{math.MaxUint64 - 1<<31, math.MaxInt32},
	} {
		if got := wire.Signed(c.v); got != c.want {
			t.Errorf("Signed(%#x): %d, want %d", c.v, got, c.want)
		}
	}
}

// WI2: Frame.

func TestFrame(t *testing.T) {
	for _, c := range []struct{ b, want []byte }{
		{nil, []byte{0, 0, 0, 0}},
		{[]byte{}, []byte{0, 0, 0, 0}},
		{[]byte("ab"), []byte{0, 0, 0, 2, 'a', 'b'}},
		{[]byte{0}, []byte{0, 0, 0, 1, 0}},
		{make([]byte, 255), append([]byte{0, 0, 0, 255}, make([]byte, 255)...)},
		{make([]byte, 256), append([]byte{0, 0, 1, 0}, make([]byte, 256)...)},
		{make([]byte, 1<<16+3), append([]byte{0, 1, 0, 3}, make([]byte, 1<<16+3)...)},
	} {
		f, err := wire.Frame(c.b)
		checkErr(t, "Frame", err, 0)
		checkBytes(t, "Frame", f, c.want)
	}
}

func TestFrameOfTheGreatestLength(t *testing.T) {
	b := make([]byte, api.MaxFrame+1)
	b[0], b[api.MaxFrame-1] = 3, 5

	f, err := wire.Frame(b)
	checkErr(t, "Frame of one byte too many", err, api.ErrLong)
	if len(f) != 0 {
		t.Fatalf("Frame: %d bytes beside an error", len(f))
	}

	f, err = wire.Frame(b[:api.MaxFrame])
	checkErr(t, "Frame of MaxFrame bytes", err, 0)
	checkBytes(t, "its length", f[:4], []byte{4, 0, 0, 0})
	if !bytes.Equal(f[4:], b[:api.MaxFrame]) {
		t.Fatal("Frame of MaxFrame bytes: other bytes")
	}

	got, rest, err := wire.Cut(append(f, 'x'))
	checkErr(t, "Cut of MaxFrame bytes", err, 0)
	checkBytes(t, "what is behind", rest, []byte("x"))
	if !bytes.Equal(got, b[:api.MaxFrame]) {
		t.Fatal("Cut of MaxFrame bytes: other bytes")
	}

	got, rest, err = wire.Cut(f[:len(f)-1])
	checkErr(t, "Cut of MaxFrame bytes less one", err, api.ErrEnd)
	if len(got) != 0 || len(rest) != 0 {
		t.Fatal("Cut: bytes beside an error")
	}

	// One above the limit, though so many bytes are there.
	_, _, err = wire.Cut(append([]byte{4, 0, 0, 1}, b...))
	checkErr(t, "Cut of a length above MaxFrame", err, api.ErrLong)
}

func TestFrameStandsAlone(t *testing.T) {
	for _, text := range []string{"", "a", "ab", "abcdefghijkl"} {
		b, all := roomy([]byte(text))
		before := bytes.Clone(all)
		f, err := wire.Frame(b)
		checkErr(t, "Frame", err, 0)
		checkAlone(t, "Frame", all, before, f)
	}
}

// WI2: Cut.

func TestCut(t *testing.T) {
	for _, c := range []struct{ b, first, rest []byte }{
		{[]byte{0, 0, 0, 0}, nil, nil},
		{[]byte{0, 0, 0, 0, 0}, nil, []byte{0}},
		{[]byte{0, 0, 0, 2, 'a', 'b'}, []byte("ab"), nil},
		{[]byte{0, 0, 0, 2, 'a', 'b', 'c'}, []byte("ab"), []byte("c")},
		{[]byte{0, 0, 0, 1, 7, 0, 0, 0, 9}, []byte{7}, []byte{0, 0, 0, 9}},
		{append([]byte{0, 0, 1, 1}, make([]byte, 258)...), make([]byte, 257), []byte{0}},
	} {
		first, rest, err := wire.Cut(c.b)
		checkErr(t, "Cut", err, 0)
		checkBytes(t, "the frame's bytes", first, c.first)
		checkBytes(t, "what is behind", rest, c.rest)
	}
}

func TestCutErrors(t *testing.T) {
	spare, _ := roomy([]byte{0, 0, 0, 2, 'a'})
	for _, c := range []struct {
		b    []byte
		want api.Errno
	}{
		{nil, api.ErrEnd},
		{[]byte{}, api.ErrEnd},
		{[]byte{0}, api.ErrEnd},
		{[]byte{255, 255}, api.ErrEnd},
		// Three bytes end too soon, whatever length they begin to tell.
		{[]byte{255, 255, 255}, api.ErrEnd},
		{[]byte{0, 0, 0}, api.ErrEnd},
		{[]byte{0, 0, 0, 1}, api.ErrEnd},
		{[]byte{0, 0, 0, 2, 'a'}, api.ErrEnd},
		{spare, api.ErrEnd},
		{[]byte{4, 0, 0, 0}, api.ErrEnd},
		{[]byte{4, 0, 0, 0, 1, 2, 3}, api.ErrEnd},
		// A length above the limit is told ahead of bytes that are missing.
		{[]byte{4, 0, 0, 1}, api.ErrLong},
		{[]byte{4, 0, 0, 1, 1, 2, 3}, api.ErrLong},
		{[]byte{5, 0, 0, 0}, api.ErrLong},
		{[]byte{127, 255, 255, 255}, api.ErrLong},
		{[]byte{128, 0, 0, 0}, api.ErrLong},
		{[]byte{128, 0, 0, 0, 1}, api.ErrLong},
		{[]byte{255, 255, 255, 255}, api.ErrLong},
		{[]byte{255, 255, 255, 252, 0, 0, 0, 0}, api.ErrLong},
	} {
		before := bytes.Clone(c.b)
		first, rest, err := wire.Cut(c.b)
		checkErr(t, "Cut", err, c.want)
		if len(first) != 0 || len(rest) != 0 {
			t.Fatalf("Cut(%v): %v, %v beside an error", c.b, first, rest)
		}
		checkBytes(t, "argument behind Cut", c.b, before)
	}
}

func TestCutStandsAlone(t *testing.T) {
	for _, c := range [][]byte{
		{0, 0, 0, 0},
		{0, 0, 0, 0, 1, 2},
		{0, 0, 0, 2, 'a', 'b'},
		{0, 0, 0, 2, 'a', 'b', 'c', 'd', 'e'},
	} {
		b, all := roomy(c)
		before := bytes.Clone(all)
		first, rest, err := wire.Cut(b)
		checkErr(t, "Cut", err, 0)
		checkAlone(t, "Cut", all, before, first, rest)
	}
}

// WI3.

func TestWhatWasPutIsTaken(t *testing.T) {
	for n := 1; n <= 8; n++ {
		for _, v := range values {
			b := append(wire.Put(nil, v, n), "behind"...)
			got, rest, err := wire.Take(b, n)
			checkErr(t, "Take", err, 0)
			if want := v & (math.MaxUint64 >> (64 - 8*n)); got != want {
				t.Fatalf("Take of Put of %#x, %d bytes: %#x, want %#x", v, n, got, want)
			}
			checkBytes(t, "what is behind", rest, []byte("behind"))
		}
	}
}

func TestWhatWasTakenIsPut(t *testing.T) {
	b := []byte{0, 255, 1, 128, 127, 0, 0, 254}
	for n := 1; n <= 8; n++ {
		v, rest, err := wire.Take(b, n)
		checkErr(t, "Take", err, 0)
		checkBytes(t, "Put of Take", append(wire.Put(nil, v, n), rest...), b)
	}
}

func TestManyNumbersOneBehindTheOther(t *testing.T) {
	var b []byte
	for i, v := range values {
		b = wire.Put(b, v, 1+i%8)
	}
	for i, v := range values {
		n := 1 + i%8
		got, rest, err := wire.Take(b, n)
		checkErr(t, "Take", err, 0)
		if want := v & (math.MaxUint64 >> (64 - 8*n)); got != want {
			t.Fatalf("number %d: %#x, want %#x", i, got, want)
		}
		b = rest
	}
	if len(b) != 0 {
		t.Fatalf("%v is left", b)
	}
}

func TestSignedNumbersComeBack(t *testing.T) {
	for _, w := range []int32{0, 1, -1, 2, -2, 1 << 16, -1 << 16, math.MaxInt32, math.MaxInt32 - 1, math.MinInt32, math.MinInt32 + 1} {
		for _, n := range []int{4, 5, 8} {
			v, _, err := wire.Take(wire.Put(nil, uint64(w), n), n)
			checkErr(t, "Take", err, 0)
			if got := wire.Signed(v); got != w {
				t.Errorf("%d, by %d bytes: %d", w, n, got)
			}
		}
	}
}

func TestFramesAreCutAsTheyWereMade(t *testing.T) {
	frame, err := wire.Frame([]byte("a frame in a frame"))
	checkErr(t, "Frame", err, 0)
	parts := [][]byte{nil, []byte("ab"), {}, {0}, {0, 0, 0, 9}, frame, bytes.Repeat([]byte{255}, 300), nil}
	var script []byte
	for _, p := range parts {
		f, err := wire.Frame(p)
		checkErr(t, "Frame", err, 0)
		script = append(script, f...)
	}
	for _, p := range parts {
		first, rest, err := wire.Cut(script)
		checkErr(t, "Cut", err, 0)
		checkBytes(t, "a frame's bytes", first, p)
		script = rest
	}
	if len(script) != 0 {
		t.Fatalf("%v is left", script)
	}
	_, _, err = wire.Cut(script)
	checkErr(t, "Cut of nothing", err, api.ErrEnd)
}

// FuzzCut holds Cut against its rule, and Frame of what it cuts against the bytes.
func FuzzCut(f *testing.F) {
	for _, b := range [][]byte{nil, {0, 0, 0}, {0, 0, 0, 0}, {0, 0, 0, 1, 2, 3}, {4, 0, 0, 1}, {255, 255, 255, 255}} {
		f.Add(b)
	}
	f.Fuzz(func(t *testing.T, b []byte) {
		first, rest, err := wire.Cut(b)
		if err != nil {
			checkErr(t, "Cut", err, cutError(b))
			return
		}
		checkErr(t, "the rule of Cut", nil, cutError(b))
		again, err := wire.Frame(first)
		checkErr(t, "Frame", err, 0)
		checkBytes(t, "Frame of Cut", append(again, rest...), b)
	})
}

// cutError is the error that the document asks of Cut.
func cutError(b []byte) api.Errno {
	if len(b) < 4 {
		return api.ErrEnd
	}
	size := int64(b[0])<<24 + int64(b[1])<<16 + int64(b[2])<<8 + int64(b[3])
	switch {
	case size > api.MaxFrame:
		return api.ErrLong
	case int64(len(b)) < 4+size:
		return api.ErrEnd
	}
	return 0
}
