package model_test

import (
	"bytes"
	"math"
	"math/rand"
	"runtime"
	"slices"
	"testing"

	"plait/arena"
	"plait/model"
)

// MD2, MD3: a model's bytes, written out.
func TestBytesWrittenOut(t *testing.T) {
	want := []byte{
		0, 0, 0, 5,
		0, 0, 0, 4,
		0, 0, 0, 1, 1,
		255, 255, 255, 255, 2,
		0, 0, 1, 2, 1,
		255, 255, 255, 255, 1,
		0, 0, 0, 4,
		0, 0, 0, 3, 1, 0, 0, 0, 0, 0, 0, 0, 7, 0, 0, 0, 2, 0, 0, 0, 2, 0, 0, 0, 1,
		0, 0, 0, 1, 1, 0, 0, 0, 2, 0, 0, 0, 1, 0, 0, 0, 3, 0, 0, 0, 6, 255, 255, 255, 254,
		0, 0, 0, 7, 0,
		0, 0, 0, 2, 1, 0, 0, 0, 3, 0, 0, 0, 3, 0, 0, 0, 0, 0, 0, 0, 0, 128, 0, 0, 0,
	}
	m := triangle()
	m.L[1].W, m.L[3].W = -2, math.MinInt32
	checkRight(t, m, wantRound(m), want)
	if back, ok := read(want); !ok || !same(back, m) {
		t.Fatalf("read: %v, %v", back, ok)
	}
}

// MD3: bytes that are no model's, written out; the first few are so near to some
// that a byte makes them such.
func TestWrongBytes(t *testing.T) {
	for _, c := range []struct {
		what string
		b    []byte
		is   bool
	}{
		{"a place, nothing given", []byte{0, 0, 0, 1, 0, 0, 0, 0, 0, 0, 0, 0}, true},
		{"all places, nothing given", []byte{0, 16, 0, 0, 0, 0, 0, 0, 0, 0, 0, 0}, true},
		{"a vertex", []byte{0, 0, 0, 1, 0, 0, 0, 1, 0, 0, 0, 1, 1, 0, 0, 0, 0}, true},
		{"an edge that was", []byte{0, 0, 0, 1, 0, 0, 0, 0, 0, 0, 0, 1, 0, 0, 0, 1, 0}, true},
		{"nothing", nil, false},
		{"an empty list", []byte{}, false},
		{"no place", []byte{0, 0, 0, 0, 0, 0, 0, 0, 0, 0, 0, 0}, false},
		{"a place too many", []byte{0, 16, 0, 1, 0, 0, 0, 0, 0, 0, 0, 0}, false},
		{"many places too many", []byte{255, 255, 255, 255, 0, 0, 0, 0, 0, 0, 0, 0}, false},
		{"a byte behind", []byte{0, 0, 0, 1, 0, 0, 0, 0, 0, 0, 0, 0, 0}, false},
		{"another one behind", []byte{0, 0, 0, 1, 0, 0, 0, 0, 0, 0, 0, 0, 0, 0, 0, 1, 0, 0, 0, 0, 0, 0, 0, 0}, false},
		{"a vertex that is not there", []byte{0, 0, 0, 1, 0, 0, 0, 1, 0, 0, 0, 0}, false},
		{"a vertex never given", []byte{0, 0, 0, 1, 0, 0, 0, 1, 0, 0, 0, 0, 0, 0, 0, 0, 0}, false},
		{"a vertex that is nothing", []byte{0, 0, 0, 1, 0, 0, 0, 1, 0, 0, 0, 1, 3, 0, 0, 0, 0}, false},
		{"a vertex in no place", []byte{0, 0, 0, 0, 0, 0, 0, 1, 0, 0, 0, 1, 1, 0, 0, 0, 0}, false},
		{"a vertex, the edges' number too short", []byte{0, 0, 0, 1, 0, 0, 0, 1, 0, 0, 0, 1, 1, 0, 0, 0}, false},
		{"an edge of which nothing is told", []byte{0, 0, 0, 1, 0, 0, 0, 0, 0, 0, 0, 1, 0, 0, 0, 1, 1}, false},
		{"too many vertices", []byte{0, 0, 0, 1, 255, 255, 255, 255, 0, 0, 0, 0}, false},
		{"too many edges", []byte{0, 0, 0, 1, 0, 0, 0, 0, 255, 255, 255, 255}, false},
	} {
		t.Run(c.what, func(t *testing.T) {
			if checkDecode(t, c.b) != c.is {
				t.Fatalf("a model's bytes: %v", !c.is)
			}
		})
	}
}

// samples are the bytes of some models.
func samples(t *testing.T) [][]byte {
	t.Helper()
	list := [][]byte{wantBytes(model.Model{N: 1}), wantBytes(triangle())}
	for i := range 12 {
		r := rand.New(rand.NewSource(int64(i)))
		m, _ := grown(t, r, 1+r.Intn(5))
		list = append(list, wantBytes(m))
	}
	return list
}

// MD3: no piece that a model's bytes begin with is a model's, and none with
// anything behind is.
func TestCutAndLengthened(t *testing.T) {
	for _, b := range samples(t) {
		if !checkDecode(t, b) {
			t.Fatalf("%v: no model's bytes", b)
		}
		for k := range b {
			checkNoDecode(t, b[:k])
		}
		for x := range 256 {
			checkNoDecode(t, append(slices.Clone(b), byte(x)))
		}
		checkNoDecode(t, append(slices.Clone(b), b...))
	}
}

// MD3: each byte of a model's, made any other one.
func TestEachByte(t *testing.T) {
	for _, b := range samples(t) {
		right := 0
		for k := range b {
			x := slices.Clone(b)
			for v := range 256 {
				x[k] = byte(v)
				if checkDecode(t, x) {
					right++
				}
			}
		}
		// At least the room can be told otherwise, and each byte as it was.
		if right < len(b)+254 {
			t.Fatalf("of %v: only %d are a model's", b, right)
		}
	}
}

// MD3: chance bytes, most of them small, so that some are a model's.
func TestChanceBytes(t *testing.T) {
	r := rand.New(rand.NewSource(17))
	right := 0
	for range 200000 {
		vertices, edges := r.Intn(2), r.Intn(2)
		b := slices.Concat(number(uint32(r.Intn(3))), number(uint32(vertices)), chance(r, vertices), number(uint32(edges)), chance(r, edges))
		if r.Intn(2) == 0 {
			b = slices.Concat(b, number(uint32(r.Intn(2))), number(uint32(r.Intn(3))), number(uint32(r.Intn(2))), number(uint32(r.Intn(3))), number(r.Uint32()))
		}
		if checkDecode(t, b) {
			right++
		}
	}
	if right < 1000 {
		t.Fatalf("only %d are a model's", right)
	}
}

// chance are the bytes of so many chance places.
func chance(r *rand.Rand, n int) []byte {
	var out []byte
	for range n {
		out = append(append(out, number(uint32(r.Intn(3)))...), byte(r.Intn(4)))
	}
	return out
}

// MD3: two models of which one thing differs have other bytes.
func TestOtherBytes(t *testing.T) {
	seen := map[string]model.Model{}
	for i := range 200 {
		r := rand.New(rand.NewSource(int64(i)))
		m, _ := grown(t, r, 2+r.Intn(4))
		for range 20 {
			x := clone(m)
			change(r, &x)
			b, err := model.Encode(x)
			if err != nil {
				continue
			}
			if was, ok := seen[string(b)]; ok && !same(was, x) {
				t.Fatalf("%v and %v have one Encode", was, x)
			}
			seen[string(b)] = x
		}
	}
}

// MD2, MD3: the answers are new memory, and what is handed in stays.
func TestBytesAreNew(t *testing.T) {
	m := triangle()
	want := wantBytes(m)
	one, err := model.Encode(m)
	checkErr(t, "Encode", err, 0)
	other, err := model.Encode(m)
	checkErr(t, "Encode", err, 0)
	spoil(one, 99)
	if !bytes.Equal(other, want) || !same(m, triangle()) {
		t.Fatalf("another answer, or what was handed in: %v, %v", other, m)
	}
}

func TestDecodedIsNew(t *testing.T) {
	whole := append(wantBytes(triangle()), 1, 2, 3)
	b := whole[:len(whole)-3]
	was := slices.Clone(whole)
	one, err := model.Decode(b)
	checkErr(t, "Decode", err, 0)
	other, err := model.Decode(b)
	checkErr(t, "Decode", err, 0)
	checkNoDecode(t, whole)
	if !bytes.Equal(whole, was) {
		t.Fatalf("what was handed in: %v", whole)
	}
	spoil(whole, 99)
	if !same(one, triangle()) {
		t.Fatalf("an answer: %v", one)
	}
	want := triangle()
	spoil(one.Vertices, arena.Place{Age: 99})
	if !slices.Equal(one.Edges, want.Edges) || !slices.Equal(one.L, want.L) {
		t.Fatalf("the edges hang on the vertices: %v", one)
	}
	spoil(one.Edges, arena.Place{Age: 99})
	if !slices.Equal(one.L, want.L) {
		t.Fatalf("what is told hangs on the places: %v", one)
	}
	spoil(one.L, model.Edge{W: 99})
	if !same(other, want) {
		t.Fatalf("another answer: %v", other)
	}
}

// MD3: a few bytes that tell of many places take no more memory than others.
func TestWrongNumbersTakeNoMemory(t *testing.T) {
	var before, behind runtime.MemStats
	runtime.ReadMemStats(&before)
	for _, many := range []uint32{1000, most - 1, most, most + 1, 1 << 30, 1 << 31, math.MaxUint32} {
		for _, b := range [][]byte{
			slices.Concat(number(8), number(many)),
			slices.Concat(number(8), number(many), number(0)),
			slices.Concat(number(8), number(0), number(many)),
			slices.Concat(number(8), number(0), number(many), number(1), []byte{0}),
		} {
			for range 10 {
				checkNoDecode(t, b)
			}
		}
	}
	runtime.ReadMemStats(&behind)
	if took := behind.TotalAlloc - before.TotalAlloc; took > 1<<20 {
		t.Fatalf("%d bytes of memory", took)
	}
}
