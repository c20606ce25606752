package answer_test

import (
	"bytes"
	"fmt"
	"math"
	"math/rand"
	"slices"
	"testing"

	"plait/answer"
	"plait/api"
	"plait/cmd"
	"plait/sphere"
)

// wrongCodes are numbers that are neither a code nor 0; some of them are codes, cut
// to fewer bits.
var wrongCodes = []int{-1, -11, -245, 18, 19, 127, 128, 255, 256, 262, 267, 1<<16 + 6, math.MinInt32, math.MaxInt32, 1 << 32, 1<<32 + 2, 1<<32 + 6, math.MinInt, math.MinInt + 6, math.MaxInt}

// wrongErrs are numbers of no error; some of them are one, cut to fewer bits.
var wrongErrs = []int{-1, -10, -255, -256, 256, 257, 266, 1<<16 + 10, math.MinInt32, 1 << 32, 1<<32 + 10, math.MinInt, math.MinInt + 10, math.MaxInt}

// wrongSides are sides of no dart; some of them are sides, cut to fewer bits.
var wrongSides = []int{-1, -2, -255, -256, 2, 3, 255, 256, 257, 1 << 16, 1 << 32, 1<<32 + 1, math.MinInt, math.MinInt + 1, math.MaxInt}

// wrongNumbers are numbers that don't go into four bytes.
var wrongNumbers = []int{-1, -2, -256, math.MinInt32, 1 << 32, 1<<32 + 1, 1 << 40, math.MinInt, math.MinInt + 1, math.MaxInt}

// far are numbers at the edges of their bytes.
var far = []uint32{0, 1, 9, 10, 255, 256, 1<<16 - 1, 1 << 16, 1<<20 - 1, 1 << 20, 1<<24 + 5, 1<<31 - 1, 1 << 31, math.MaxUint32 - 1, math.MaxUint32}

// sums are sums at the edges of their bytes.
var sums = []int64{0, 1, -1, 127, -128, 255, -256, 1 << 31, -1 << 31, 1 << 32, -1 << 32, 1<<51 + 3, -1<<51 - 3, math.MinInt64, math.MinInt64 + 1, math.MaxInt64}

// tell tells an answer in short.
func tell(code int, a answer.Answer) string {
	if len(a.Data) > 40 || len(a.Darts) > 40 {
		return fmt.Sprintf("%d: %d, %v, %d darts, %d bytes", code, a.Err, a.Handles, len(a.Darts), len(a.Data))
	}
	return fmt.Sprintf("%d: %+v", code, a)
}

func tellBytes(code int, b []byte) string {
	if len(b) > 60 {
		return fmt.Sprintf("%d: %v .. (%d bytes)", code, b[:60], len(b))
	}
	return fmt.Sprintf("%d: %v", code, b)
}

// two are two handles of which no byte is like another.
func two() []api.Handle {
	return []api.Handle{{Age: 0x01020304, At: 0x05060708}, {Age: 0x11121314, At: 0xf5f6f7f8}}
}

// darts are darts of which no byte is like another.
func darts() []answer.Side {
	return []answer.Side{{Edge: two()[0], At: 1}, {Edge: two()[1]}, {Edge: api.Handle{Age: 0x21222324, At: 0x25262728}, At: 1}}
}

// counts are four numbers of which no byte is like another.
func counts() sphere.Counts {
	return sphere.Counts{V: 0x01020304, E: 0x11121314, F: 0xf1f2f3f4, C: 0x31323334}
}

// full is an answer of a code from 1 on with nothing zero that it has.
func full(code int) answer.Answer {
	switch layouts[code] {
	case "H":
		return answer.Answer{Handles: two()[:1]}
	case "HH":
		return answer.Answer{Handles: two()}
	case "B":
		return answer.Answer{Is: true}
	case "N":
		return answer.Answer{N: 0xf1020304}
	case "L":
		return answer.Answer{Darts: darts()}
	case "D":
		return answer.Answer{Darts: darts()[:1]}
	case "C":
		return answer.Answer{Counts: counts()}
	case "S":
		return answer.Answer{Sum: -0x0102030405060708}
	case "*":
		return answer.Answer{Data: []byte("a\x00\xff\x9a")}
	}
	return answer.Answer{}
}

// The chapter's example.
func TestExample(t *testing.T) {
	a := answer.Answer{Is: true}
	b, err := answer.Encode(cmd.Connected, a)
	checkErr(t, "Encode", err, 0)
	if !bytes.Equal(b, []byte{0, 1}) {
		t.Fatalf("Encode: %v", b)
	}
	s, err := answer.Text(cmd.Connected, a)
	checkErr(t, "Text", err, 0)
	if s != "yes" {
		t.Fatalf("Text: %q", s)
	}
	back, err := answer.Decode(cmd.Connected, []byte{0, 1})
	checkErr(t, "Decode", err, 0)
	if !same(back, a) {
		t.Fatalf("Decode: %+v", back)
	}
}

// AN1 to AN3: answers of each code, written out.
func TestWrittenOut(t *testing.T) {
	h := "\x01\x02\x03\x04\x05\x06\x07\x08"
	k := "\x11\x12\x13\x14\xf5\xf6\xf7\xf8"
	for _, x := range []struct {
		code        int
		a           answer.Answer
		bytes, text string
	}{
		{cmd.None, answer.Answer{Err: 10}, "\x0a", "error 10"},
		{cmd.None, answer.Answer{Err: 255}, "\xff", "error 255"},
		{cmd.Dump, answer.Answer{Err: 1}, "\x01", "error 1"},
		{cmd.Face, answer.Answer{Err: 13}, "\x0d", "error 13"},
		{cmd.Load, answer.Answer{Err: 17}, "\x11", "error 17"},
		{cmd.AddVertex, answer.Answer{Handles: []api.Handle{{Age: 1}}}, "\x00\x00\x00\x00\x01\x00\x00\x00\x00", "0#1"},
		{cmd.AddVertex, answer.Answer{Handles: two()[:1]}, "\x00" + h, "84281096#16909060"},
		{cmd.DropVertex, answer.Answer{}, "\x00", "ok"},
		{cmd.Insert, answer.Answer{Handles: two()[1:]}, "\x00" + k, "4126603256#286397204"},
		{cmd.Insert, answer.Answer{Handles: []api.Handle{{Age: math.MaxUint32, At: math.MaxUint32}}}, "\x00\xff\xff\xff\xff\xff\xff\xff\xff", "4294967295#4294967295"},
		{cmd.Delete, answer.Answer{}, "\x00", "ok"},
		{cmd.Weigh, answer.Answer{}, "\x00", "ok"},
		{cmd.Connected, answer.Answer{}, "\x00\x00", "no"},
		{cmd.SameFace, answer.Answer{Is: true}, "\x00\x01", "yes"},
		{cmd.Bridge, answer.Answer{}, "\x00\x00", "no"},
		{cmd.FaceLen, answer.Answer{N: 258}, "\x00\x00\x00\x01\x02", "258"},
		{cmd.FaceLen, answer.Answer{}, "\x00\x00\x00\x00\x00", "0"},
		{cmd.FaceLen, answer.Answer{N: math.MaxUint32}, "\x00\xff\xff\xff\xff", "4294967295"},
		{cmd.Face, answer.Answer{}, "\x00\x00\x00\x00\x00", "none"},
		{cmd.Face, answer.Answer{Darts: darts()[:1]}, "\x00\x00\x00\x00\x01\x01" + h, "84281096#16909060.1"},
		{cmd.Face, answer.Answer{Darts: darts()[:2]}, "\x00\x00\x00\x00\x02\x01" + h + "\x00" + k, "84281096#16909060.1 4126603256#286397204.0"},
		{cmd.Counts, answer.Answer{Counts: sphere.Counts{V: 1, E: 258, F: math.MaxUint32}}, "\x00\x00\x00\x00\x01\x00\x00\x01\x02\xff\xff\xff\xff\x00\x00\x00\x00", "1 258 4294967295 0"},
		{cmd.Counts, answer.Answer{}, "\x00\x00\x00\x00\x00\x00\x00\x00\x00\x00\x00\x00\x00\x00\x00\x00\x00", "0 0 0 0"},
		{cmd.Marked, answer.Answer{Is: true}, "\x00\x01", "yes"},
		{cmd.Sum, answer.Answer{}, "\x00\x00\x00\x00\x00\x00\x00\x00\x00", "0"},
		{cmd.Sum, answer.Answer{Sum: -2}, "\x00\xff\xff\xff\xff\xff\xff\xff\xfe", "-2"},
		{cmd.Sum, answer.Answer{Sum: math.MinInt64}, "\x00\x80\x00\x00\x00\x00\x00\x00\x00", "-9223372036854775808"},
		{cmd.Sum, answer.Answer{Sum: math.MaxInt64}, "\x00\x7f\xff\xff\xff\xff\xff\xff\xff", "9223372036854775807"},
		{cmd.Dump, answer.Answer{}, "\x00", "empty"},
		{cmd.Dump, answer.Answer{Data: []byte{0}}, "\x00\x00", "00"},
		{cmd.Dump, answer.Answer{Data: []byte("\x00\x0a\x9f\xf0\xff")}, "\x00\x00\x0a\x9f\xf0\xff", "000a9ff0ff"},
		{cmd.Load, answer.Answer{}, "\x00", "ok"},
		{cmd.Ends, answer.Answer{Handles: two()}, "\x00" + h + k, "84281096#16909060 4126603256#286397204"},
		{cmd.Ends, answer.Answer{Handles: make([]api.Handle, 2)}, "\x00" + string(make([]byte, 16)), "0#0 0#0"},
		{cmd.Next, answer.Answer{Darts: darts()[1:2]}, "\x00\x00" + k, "4126603256#286397204.0"},
	} {
		what := tell(x.code, x.a)
		b, err := answer.Encode(x.code, x.a)
		checkErr(t, "Encode of "+what, err, 0)
		if string(b) != x.bytes {
			t.Errorf("Encode of %s: %v, want %v", what, b, []byte(x.bytes))
		}
		s, err := answer.Text(x.code, x.a)
		checkErr(t, "Text of "+what, err, 0)
		if s != x.text {
			t.Errorf("Text of %s: %q, want %q", what, s, x.text)
		}
		a, err := answer.Decode(x.code, []byte(x.bytes))
		checkErr(t, "Decode of "+what, err, 0)
		if !same(a, x.a) {
			t.Errorf("Decode of %v: %s, want %s", []byte(x.bytes), tell(x.code, a), what)
		}
		checkAnswer(t, x.code, x.a)
		checkBytes(t, x.code, []byte(x.bytes))
	}
}

// AN1, AN2: answers that may not be, written out.
func TestWrongWrittenOut(t *testing.T) {
	for _, x := range []struct {
		what string
		code int
		a    answer.Answer
		want api.Errno
	}{
		{"no command, and no error", 0, answer.Answer{}, 1},
		{"no command, and a handle", 0, answer.Answer{Handles: two()[:1]}, 1},
		{"no code, and no error", 18, answer.Answer{}, 10},
		{"no code, and an error", -1, answer.Answer{Err: 10}, 10},
		{"no code, and nothing right", 18, answer.Answer{Err: -1, N: -1, Is: true, Data: []byte{1}}, 10},
		{"an error below 0", 2, answer.Answer{Err: -1}, 1},
		{"an error above 255", 2, answer.Answer{Err: 256}, 1},
		{"an error, and a handle", 1, answer.Answer{Err: 16, Handles: two()[:1]}, 1},
		{"an error, and yes", 6, answer.Answer{Err: 12, Is: true}, 1},
		{"an error, and a number", 9, answer.Answer{Err: 12, N: 1}, 1},
		{"an error, and a dart", 10, answer.Answer{Err: 12, Darts: darts()[:1]}, 1},
		{"an error, and counts", 11, answer.Answer{Err: 12, Counts: sphere.Counts{C: 1}}, 1},
		{"an error, and a sum", 13, answer.Answer{Err: 12, Sum: 1}, 1},
		{"an error, and data", 14, answer.Answer{Err: 12, Data: []byte{0}}, 1},
		{"no handle", 1, answer.Answer{}, 1},
		{"a handle too many", 3, answer.Answer{Handles: two()}, 1},
		{"a handle too few", 16, answer.Answer{Handles: two()[:1]}, 1},
		{"a handle of a handle", 4, answer.Answer{Handles: make([]api.Handle, 1)}, 1},
		{"three handles", 16, answer.Answer{Handles: make([]api.Handle, 3)}, 1},
		{"no dart", 17, answer.Answer{}, 1},
		{"two darts", 17, answer.Answer{Darts: darts()[:2]}, 1},
		{"a dart of nothing", 5, answer.Answer{Darts: make([]answer.Side, 1)}, 1},
		{"a dart's length", 10, answer.Answer{N: 1, Darts: darts()[:1]}, 1},
		{"a dart's side 2", 17, answer.Answer{Darts: []answer.Side{{At: 2}}}, 1},
		{"the last dart's side -1", 10, answer.Answer{Darts: append(darts(), answer.Side{At: -1})}, 1},
		{"a number below 0", 9, answer.Answer{N: -1}, 1},
		{"a number above 2^32 - 1", 9, answer.Answer{N: 1 << 32}, 1},
		{"yes of a number", 9, answer.Answer{Is: true}, 1},
		{"a number of yes", 12, answer.Answer{Is: true, N: 1}, 1},
		{"counts below 0", 11, answer.Answer{Counts: sphere.Counts{F: -1}}, 1},
		{"counts above 2^32 - 1", 11, answer.Answer{Counts: sphere.Counts{C: 1 << 32}}, 1},
		{"a sum of counts", 11, answer.Answer{Sum: 1}, 1},
		{"counts of a sum", 13, answer.Answer{Counts: sphere.Counts{V: 1}}, 1},
		{"data of what loads", 15, answer.Answer{Data: []byte{1}}, 1},
		{"data, and yes", 14, answer.Answer{Data: []byte{1}, Is: true}, 1},
		{"lists of nothing", 15, answer.Answer{Handles: []api.Handle{}, Darts: []answer.Side{}, Data: []byte{}}, 0},
		{"a list of no darts", 10, answer.Answer{Darts: []answer.Side{}}, 0},
		{"a list of no bytes", 14, answer.Answer{Data: []byte{}}, 0},
		{"lists of nothing, and an error", 0, answer.Answer{Err: 3, Handles: []api.Handle{}, Darts: []answer.Side{}, Data: []byte{}}, 0},
	} {
		b, err := answer.Encode(x.code, x.a)
		checkErr(t, x.what, err, x.want)
		s, err := answer.Text(x.code, x.a)
		checkErr(t, x.what, err, x.want)
		if x.want != 0 && (len(b) > 0 || s != "") {
			t.Errorf("%s: bytes or a text beside the error", x.what)
		}
		checkAnswer(t, x.code, x.a)
	}
}

// AN1, AN2: codes of no command, whatever the answer or the bytes.
func TestWrongCodes(t *testing.T) {
	for _, code := range wrongCodes {
		for c := range 18 {
			checkAnswer(t, code, full(c))
			checkBytes(t, code, wantBytes(c, full(c)))
		}
		checkAnswer(t, code, answer.Answer{Err: 10})
		checkAnswer(t, code, answer.Answer{Err: -1, Is: true, N: -1})
		checkBytes(t, code, nil)
		checkBytes(t, code, []byte{10})
	}
}

// AN1 to AN3: each number of an error, of each code; and each that is none.
func TestErrs(t *testing.T) {
	for code := range 18 {
		for e := 1; e < 256; e++ {
			checkAnswer(t, code, answer.Answer{Err: e})
			a := full(code)
			a.Err = e
			checkAnswer(t, code, a)
		}
		for _, e := range wrongErrs {
			checkAnswer(t, code, answer.Answer{Err: e})
			a := full(code)
			a.Err = e
			checkAnswer(t, code, a)
		}
	}
}

// AN1, AN2: each code with what each other one has.
func TestEachOther(t *testing.T) {
	for code := range 18 {
		for other := range 18 {
			checkAnswer(t, code, full(other))
			checkBytes(t, code, wantBytes(other, full(other)))
		}
	}
}

// eachPart goes over answers of each part zero and not.
func eachPart(try func(answer.Answer)) {
	for n := range 1 << 8 {
		a := answer.Answer{}
		has := func(i int) bool { return n>>i&1 == 1 }
		if has(0) {
			a.Handles = append(a.Handles, two()[0])
		}
		if has(1) {
			a.Handles = append(a.Handles, two()[1])
		}
		a.Is = has(2)
		if has(3) {
			a.N = 1
		}
		if has(4) {
			a.Darts = darts()[:1]
		}
		if has(5) {
			a.Counts.F = 1
		}
		if has(6) {
			a.Sum = -1
		}
		if has(7) {
			a.Data = []byte{0}
		}
		try(a)
	}
}

// AN1, AN2: each code with each part zero and not, with an error and without.
func TestEachPart(t *testing.T) {
	for code := -1; code <= 18; code++ {
		eachPart(func(a answer.Answer) {
			for _, e := range []int{0, 1, 255, 256, -1} {
				a.Err = e
				checkAnswer(t, code, a)
			}
		})
	}
}

// AN1, AN2: a zero part that stands there all the same is one.
func TestZeroParts(t *testing.T) {
	for code := range 18 {
		for n := range 4 {
			checkAnswer(t, code, answer.Answer{Handles: make([]api.Handle, n)})
			checkAnswer(t, code, answer.Answer{Darts: make([]answer.Side, n)})
			checkAnswer(t, code, answer.Answer{Data: make([]byte, n)})
		}
	}
}

// AN1, AN2: sides of darts, each of them at each place.
func TestSides(t *testing.T) {
	for _, code := range []int{cmd.Face, cmd.Next, cmd.Ends} {
		for _, at := range append([]int{0, 1}, wrongSides...) {
			for i := range 3 {
				l := darts()
				l[i].At = at
				checkAnswer(t, code, answer.Answer{Darts: l})
				checkAnswer(t, code, answer.Answer{Darts: l[i : i+1]})
			}
		}
	}
}

// AN1, AN2: numbers at the edges of their bytes, and those that don't go into them.
func TestNumbers(t *testing.T) {
	l := slices.Clone(wrongNumbers)
	for _, v := range far {
		l = append(l, int(v))
		for _, h := range []api.Handle{{Age: v}, {At: v}, {Age: v, At: v}, {Age: v, At: ^v}} {
			checkAnswer(t, cmd.AddVertex, answer.Answer{Handles: []api.Handle{h}})
			checkAnswer(t, cmd.Insert, answer.Answer{Handles: []api.Handle{h}})
			checkAnswer(t, cmd.Ends, answer.Answer{Handles: []api.Handle{two()[0], h}})
			checkAnswer(t, cmd.Ends, answer.Answer{Handles: []api.Handle{h, two()[1]}})
			for at := range 2 {
				checkAnswer(t, cmd.Next, answer.Answer{Darts: []answer.Side{{Edge: h, At: at}}})
				checkAnswer(t, cmd.Face, answer.Answer{Darts: append(darts(), answer.Side{Edge: h, At: at})})
			}
		}
	}
	for _, n := range l {
		checkAnswer(t, cmd.FaceLen, answer.Answer{N: n})
		for i := range 4 {
			c := [4]int{1, 2, 3, 4}
			c[i] = n
			checkAnswer(t, cmd.Counts, answer.Answer{Counts: sphere.Counts{V: c[0], E: c[1], F: c[2], C: c[3]}})
			c = [4]int{}
			c[i] = n
			checkAnswer(t, cmd.Counts, answer.Answer{Counts: sphere.Counts{V: c[0], E: c[1], F: c[2], C: c[3]}})
			checkAnswer(t, cmd.Sum, answer.Answer{Counts: sphere.Counts{V: c[0], E: c[1], F: c[2], C: c[3]}})
		}
		for code := range 18 {
			checkAnswer(t, code, answer.Answer{N: n})
			checkAnswer(t, code, answer.Answer{Err: 1, N: n})
		}
	}
	for _, s := range sums {
		for code := range 18 {
			checkAnswer(t, code, answer.Answer{Sum: s})
		}
	}
}

// AN1 to AN3: faces and data of each length, up to some.
func TestLengths(t *testing.T) {
	r := rand.New(rand.NewSource(3))
	var l []answer.Side
	var data []byte
	for range 600 {
		checkAnswer(t, cmd.Face, answer.Answer{Darts: l})
		checkAnswer(t, cmd.Dump, answer.Answer{Data: data})
		l = append(l, answer.Side{Edge: api.Handle{Age: r.Uint32(), At: r.Uint32()}, At: r.Intn(2)})
		data = append(data, byte(len(data)*7))
	}
}

// AN1: bytes of no answer, written out.
func TestDecodeWrittenOut(t *testing.T) {
	h := "\x01\x02\x03\x04\x05\x06\x07\x08"
	for _, x := range []struct {
		what string
		code int
		b    string
		want api.Errno
	}{
		{"no code, of nothing", 18, "", 10},
		{"no code, of an error", -1, "\x0a", 10},
		{"nothing", 2, "", 3},
		{"nothing, of no command", 0, "", 3},
		{"no error, of no command", 0, "\x00", 3},
		{"an error, of no command", 0, "\x0a", 0},
		{"an error, and a byte", 0, "\x0a\x00", 3},
		{"an error, and yes", 6, "\x0c\x01", 3},
		{"an error, and data", 14, "\x0c\x01", 3},
		{"an error of Dump", 14, "\x0c", 0},
		{"nothing but a byte", 15, "\x00\x00", 3},
		{"no yes and no no", 6, "\x00", 3},
		{"neither yes nor no", 6, "\x00\x02", 3},
		{"yes, and a byte", 6, "\x00\x01\x00", 3},
		{"a handle too few", 1, "\x00", 3},
		{"half a handle", 1, "\x00" + h[:4], 3},
		{"a byte too few", 1, "\x00" + h[:7], 3},
		{"a byte too many", 1, "\x00" + h + "\x00", 3},
		{"a handle too many", 1, "\x00" + h + h, 3},
		{"no second handle", 16, "\x00" + h, 3},
		{"no number", 9, "\x00", 3},
		{"half a number", 9, "\x00\x00\x00", 3},
		{"no number of darts", 10, "\x00", 3},
		{"half a number of darts", 10, "\x00\x00\x00", 3},
		{"no darts", 10, "\x00\x00\x00\x00\x00", 0},
		{"no darts, and one", 10, "\x00\x00\x00\x00\x00\x00" + h, 3},
		{"no dart of one", 10, "\x00\x00\x00\x00\x01", 3},
		{"a dart", 10, "\x00\x00\x00\x00\x01\x00" + h, 0},
		{"a dart's side 2", 10, "\x00\x00\x00\x00\x01\x02" + h, 3},
		{"half a dart of one", 10, "\x00\x00\x00\x00\x01\x00" + h[:4], 3},
		{"a dart of two", 10, "\x00\x00\x00\x00\x02\x00" + h, 3},
		{"darts without their number", 10, "\x00\x00" + h, 3},
		{"more darts than any", 10, "\x00\xff\xff\xff\xff\x00" + h, 3},
		{"a dart with a number", 17, "\x00\x00\x00\x00\x01\x00" + h, 3},
		{"no next dart", 17, "\x00", 3},
		{"two next darts", 17, "\x00\x00" + h + "\x01" + h, 3},
		{"a next dart's side 255", 17, "\x00\xff" + h, 3},
		{"three counts", 11, "\x00" + h + h[:4], 3},
		{"five counts", 11, "\x00" + h + h + h[:4], 3},
		{"half a sum", 13, "\x00" + h[:4], 3},
		{"a sum and a byte", 13, "\x00" + h + "\x00", 3},
	} {
		a, err := answer.Decode(x.code, []byte(x.b))
		checkErr(t, x.what, err, x.want)
		if x.want != 0 && !same(a, answer.Answer{}) {
			t.Errorf("%s: an answer beside the error", x.what)
		}
		checkBytes(t, x.code, []byte(x.b))
	}
	for code := range 18 {
		_, err := answer.Decode(code, nil)
		checkErr(t, "Decode of nil", err, 3)
	}
}

// AN1, AN3: all bytes up to two, and all numbers of bytes up to some, of each code.
func TestDecodeSizes(t *testing.T) {
	for code := -1; code <= 18; code++ {
		checkBytes(t, code, nil)
		for x := range 256 {
			checkBytes(t, code, []byte{byte(x)})
			for y := range 256 {
				checkBytes(t, code, []byte{byte(x), byte(y)})
			}
		}
		for n := range 50 {
			for _, first := range []byte{0, 1, 10, 255} {
				for _, x := range []byte{0, 1, 2, 128, 255} {
					checkBytes(t, code, append([]byte{first}, bytes.Repeat([]byte{x}, n)...))
				}
			}
			for k := range 7 {
				b := append([]byte{0, 0, 0, 0, byte(k)}, make([]byte, n)...)
				checkBytes(t, code, b)
			}
		}
	}
}

// AN1, AN3: each byte of each answer made any other one, left out, and put in.
func TestDecodeEachByte(t *testing.T) {
	for code := range 18 {
		b := wantBytes(code, full(code))
		for i := range b {
			was := b[i]
			for x := range 256 {
				b[i] = byte(x)
				checkBytes(t, code, b)
			}
			b[i] = was
			checkBytes(t, code, slices.Delete(slices.Clone(b), i, i+1))
			checkBytes(t, code, slices.Insert(slices.Clone(b), i, was))
			checkBytes(t, code, slices.Insert(slices.Clone(b), i, 0))
		}
	}
}

// byChance is an answer of a code, seldom one that may not be.
func byChance(r *rand.Rand, code int) answer.Answer {
	if r.Intn(12) == 0 {
		return answer.Answer{Err: r.Intn(260) - 2}
	}
	a := full(code)
	for i := range a.Handles {
		a.Handles[i] = api.Handle{Age: r.Uint32(), At: r.Uint32()}
	}
	if a.Is || r.Intn(40) == 0 {
		a.Is = r.Intn(2) == 0
	}
	if a.N != 0 || r.Intn(40) == 0 {
		a.N = r.Intn(1<<32 + 100)
	}
	if code == cmd.Face {
		a.Darts = make([]answer.Side, r.Intn(9))
	}
	for i := range a.Darts {
		a.Darts[i] = answer.Side{Edge: api.Handle{Age: r.Uint32(), At: r.Uint32()}, At: r.Intn(2)}
		if r.Intn(90) == 0 {
			a.Darts[i].At = 2
		}
	}
	if a.Counts.V != 0 || r.Intn(40) == 0 {
		a.Counts = sphere.Counts{V: r.Intn(1 << 32), E: r.Intn(1 << 32), F: r.Intn(1 << 32), C: r.Intn(1<<32 + 100)}
	}
	if a.Sum != 0 || r.Intn(40) == 0 {
		a.Sum = int64(r.Uint64())
	}
	if len(a.Data) > 0 || r.Intn(40) == 0 {
		a.Data = make([]byte, r.Intn(40))
		r.Read(a.Data)
	}
	return a
}

// AN1 to AN3: answers and bytes by chance.
func TestByChance(t *testing.T) {
	r := rand.New(rand.NewSource(20))
	for range 100000 {
		code := r.Intn(18)
		checkAnswer(t, code, byChance(r, code))
	}
	for range 100000 {
		b := make([]byte, r.Intn(30))
		r.Read(b)
		for i := range min(len(b), 5) {
			b[i] = byte(r.Intn(4) / 2 * r.Intn(3))
		}
		checkBytes(t, r.Intn(18), b)
	}
}

// scribble writes over a list, spare room and all.
func scribble(b []byte) {
	b = b[:cap(b)]
	for i := range b {
		b[i] ^= 0xff
	}
}

// Rule 3: Encode's bytes are new memory, and what is handed in is neither changed
// nor kept, spare room too.
func TestEncodeAlone(t *testing.T) {
	for code := 1; code <= 17; code++ {
		a := full(code)
		all := append(slices.Clone(a.Data), 5, 6, 7)
		a.Data = all[:len(a.Data)]
		held := slices.Clone(all)
		want := wantBytes(code, a)
		b, err := answer.Encode(code, a)
		checkErr(t, "Encode", err, 0)
		other, err := answer.Encode(code, a)
		checkErr(t, "Encode", err, 0)
		text, err := answer.Text(code, a)
		checkErr(t, "Text", err, 0)
		scribble(b)
		if !bytes.Equal(all, held) || !bytes.Equal(other, want) {
			t.Fatalf("%s: a write into the answer is seen", tell(code, a))
		}
		right := wantText(code, a)
		scribble(all)
		clear(a.Handles)
		clear(a.Darts)
		if !bytes.Equal(other, want) || text != right {
			t.Fatalf("%s: a write into the argument is seen", tell(code, a))
		}
	}
}

// Rule 3: what Decode answers is new memory, and the bytes are neither changed nor
// kept.
func TestDecodeAlone(t *testing.T) {
	for code := 1; code <= 17; code++ {
		want := full(code)
		b := wantBytes(code, want)
		all := append(slices.Clone(b), 5, 6, 7)
		held := slices.Clone(all)
		a, err := answer.Decode(code, all[:len(b)])
		checkErr(t, "Decode", err, 0)
		other, err := answer.Decode(code, all[:len(b)])
		checkErr(t, "Decode", err, 0)
		scribble(a.Data)
		clear(a.Handles[:cap(a.Handles)])
		clear(a.Darts[:cap(a.Darts)])
		if !bytes.Equal(all, held) || !same(other, want) {
			t.Fatalf("%d: a write into the answer is seen", code)
		}
		scribble(all)
		if !same(other, want) {
			t.Fatalf("%d: a write into the bytes is seen", code)
		}
	}
}

// Rule 4: what was done before is not seen.
func TestNothingKept(t *testing.T) {
	for range 3 {
		for code := range 18 {
			checkAnswer(t, code, full(code))
			checkAnswer(t, code, answer.Answer{Err: 300, Sum: 9, Data: []byte("no")})
			checkBytes(t, code, wantBytes(code, full(code)))
			checkBytes(t, code, []byte{0, 9})
		}
	}
}
