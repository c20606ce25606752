package cmd_test

import (
	"bytes"
	"fmt"
	"math"
	"math/rand"
	"slices"
	"testing"

	"plait/api"
	"plait/cmd"
)

// wrongCodes are the codes of no command; some of them are codes, cut to fewer
// bits.
var wrongCodes = []int{0, -1, -11, -245, 18, 19, 127, 128, 255, 256, 257, 267, 1<<16 + 1, math.MinInt32, math.MaxInt32, 1 << 32, 1<<32 + 1, 1<<32 + 11, 1<<32 + 15, math.MinInt, math.MinInt + 11, math.MaxInt}

// wrongSides are sides of nothing; some of them are sides, cut to fewer bits.
var wrongSides = []int{-1, -2, -254, -256, 3, 4, 255, 256, 257, 258, 1 << 16, math.MinInt32, math.MaxInt32, 1 << 32, 1<<32 + 1, 1<<32 + 2, math.MinInt, math.MinInt + 1, math.MaxInt}

// far are numbers at the edges of their bytes.
var far = []uint32{0, 1, 255, 256, 1<<16 - 1, 1 << 16, 1<<20 - 1, 1 << 20, 1<<24 + 5, 1<<31 - 1, 1 << 31, math.MaxUint32 - 1, math.MaxUint32}

// weights are weights at the edges of their bytes.
var weights = []int32{0, 1, -1, 127, -128, 255, -256, 1 << 16, math.MinInt32, math.MinInt32 + 1, math.MaxInt32}

// tell tells a command in short.
func tell(c cmd.Command) string {
	if len(c.Data) > 40 {
		return fmt.Sprintf("%d, %v, %v, %d, %d bytes", c.Code, c.Handles, c.Sides, c.W, len(c.Data))
	}
	return fmt.Sprintf("%+v", c)
}

func tellBytes(b []byte) string {
	if len(b) > 40 {
		return fmt.Sprintf("%v .. (%d bytes)", b[:40], len(b))
	}
	return fmt.Sprint(b)
}

// two are two handles of which no byte is like another.
func two() [2]api.Handle {
	return [2]api.Handle{{Age: 0x01020304, At: 0x05060708}, {Age: 0x11121314, At: 0xf5f6f7f8}}
}

// one is the first of them alone.
func one() [2]api.Handle { return [2]api.Handle{two()[0]} }

// full is a command of a code with nothing zero that it has, but its sides.
func full(code int) cmd.Command {
	c := cmd.Command{Code: code}
	at := 0
	for _, part := range layouts[code] {
		switch part {
		case 'h', 'd', 'c':
			c.Handles[at] = two()[at]
			at++
		case 'w':
			c.W = -2
		case '*':
			c.Data = []byte("abc")
		}
	}
	return c
}

// The chapter's example.
func TestExample(t *testing.T) {
	b, err := cmd.Encode(cmd.Command{Code: cmd.Counts})
	checkErr(t, "Encode", err, 0)
	if !bytes.Equal(b, []byte{11}) {
		t.Fatalf("Encode of Counts: %v", b)
	}
	c, err := cmd.Decode([]byte{11})
	checkErr(t, "Decode", err, 0)
	if !same(c, cmd.Command{Code: cmd.Counts}) {
		t.Fatalf("Decode: %v", c)
	}
}

// The codes are numbered from AddVertex 1 on, as they are listed.
func TestCodes(t *testing.T) {
	got := []int{cmd.None, cmd.AddVertex, cmd.DropVertex, cmd.Insert, cmd.Delete, cmd.Weigh, cmd.Connected, cmd.SameFace, cmd.Bridge, cmd.FaceLen, cmd.Face, cmd.Counts, cmd.Marked, cmd.Sum, cmd.Dump, cmd.Load, cmd.Ends, cmd.Next, cmd.Codes}
	for i, code := range got {
		if code != i {
			t.Errorf("the code at %d is %d", i, code)
		}
	}
}

// CM2, CM3: a command of each code, written out.
func TestWrittenOut(t *testing.T) {
	h := "\x01\x02\x03\x04\x05\x06\x07\x08"
	k := "\x11\x12\x13\x14\xf5\xf6\xf7\xf8"
	for _, x := range []struct {
		c    cmd.Command
		want string
	}{
		{cmd.Command{Code: cmd.AddVertex}, "\x01"},
		{cmd.Command{Code: cmd.DropVertex, Handles: one()}, "\x02" + h},
		{cmd.Command{Code: cmd.Insert, Handles: two(), Sides: [2]int{2, 1}, W: -2}, "\x03\x02" + h + "\x01" + k + "\xff\xff\xff\xfe"},
		{cmd.Command{Code: cmd.Insert, Handles: two(), W: 0x21222324}, "\x03\x00" + h + "\x00" + k + "\x21\x22\x23\x24"},
		{cmd.Command{Code: cmd.Delete, Handles: one()}, "\x04" + h},
		{cmd.Command{Code: cmd.Weigh, Handles: one(), W: math.MinInt32}, "\x05" + h + "\x80\x00\x00\x00"},
		{cmd.Command{Code: cmd.Weigh, Handles: one(), W: math.MaxInt32}, "\x05" + h + "\x7f\xff\xff\xff"},
		{cmd.Command{Code: cmd.Connected, Handles: two()}, "\x06" + h + k},
		{cmd.Command{Code: cmd.SameFace, Handles: two(), Sides: [2]int{0, 1}}, "\x07\x00" + h + "\x01" + k},
		{cmd.Command{Code: cmd.Bridge, Handles: one()}, "\x08" + h},
		{cmd.Command{Code: cmd.FaceLen, Handles: one(), Sides: [2]int{1}}, "\x09\x01" + h},
		{cmd.Command{Code: cmd.Face, Handles: one()}, "\x0a\x00" + h},
		{cmd.Command{Code: cmd.Counts}, "\x0b"},
		{cmd.Command{Code: cmd.Marked, Handles: one()}, "\x0c" + h},
		{cmd.Command{Code: cmd.Sum}, "\x0d"},
		{cmd.Command{Code: cmd.Dump}, "\x0e"},
		{cmd.Command{Code: cmd.Load}, "\x0f"},
		{cmd.Command{Code: cmd.Load, Data: []byte("ab\x00")}, "\x0fab\x00"},
		{cmd.Command{Code: cmd.Ends, Handles: one()}, "\x10" + h},
		{cmd.Command{Code: cmd.Next, Handles: one(), Sides: [2]int{1}}, "\x11\x01" + h},
		{cmd.Command{Code: cmd.Next}, "\x11\x00\x00\x00\x00\x00\x00\x00\x00\x00"},
	} {
		checkErr(t, "Check of "+tell(x.c), cmd.Check(x.c), 0)
		b, err := cmd.Encode(x.c)
		checkErr(t, "Encode of "+tell(x.c), err, 0)
		if string(b) != x.want {
			t.Errorf("Encode of %s: %v, want %v", tell(x.c), b, []byte(x.want))
		}
		c, err := cmd.Decode([]byte(x.want))
		checkErr(t, "Decode", err, 0)
		if !same(c, x.c) {
			t.Errorf("Decode of %v: %s, want %s", []byte(x.want), tell(c), tell(x.c))
		}
		checkCommand(t, x.c)
		checkBytes(t, []byte(x.want))
	}
}

// CM1: wrong commands, written out: of several errors the first one.
func TestCheckWrittenOut(t *testing.T) {
	long := make([]byte, longest+1)
	for _, x := range []struct {
		what string
		c    cmd.Command
		want api.Errno
	}{
		{"nothing", cmd.Command{}, 10},
		{"the code behind all", cmd.Command{Code: cmd.Codes}, 10},
		{"no code, and no side", cmd.Command{Code: 18, Sides: [2]int{-1, 9}, W: 1, Data: long}, 10},
		{"no code, and too long", cmd.Command{Data: long}, 10},
		{"a dart's side 2", cmd.Command{Code: cmd.Face, Sides: [2]int{2}}, 3},
		{"the second dart's side 2", cmd.Command{Code: cmd.SameFace, Sides: [2]int{1, 2}}, 3},
		{"a corner's side 3", cmd.Command{Code: cmd.Insert, Sides: [2]int{3}}, 3},
		{"the second corner's side -1", cmd.Command{Code: cmd.Insert, Sides: [2]int{2, -1}}, 3},
		{"no side, and a weight", cmd.Command{Code: cmd.Next, Sides: [2]int{-1}, W: 1}, 3},
		{"no side, and a second handle", cmd.Command{Code: cmd.FaceLen, Handles: two(), Sides: [2]int{5}}, 3},
		{"no side, and too long", cmd.Command{Code: cmd.SameFace, Sides: [2]int{0, 7}, Data: long}, 3},
		{"a second side of one dart", cmd.Command{Code: cmd.Face, Handles: one(), Sides: [2]int{0, 1}}, 1},
		{"a second side of one dart that is none", cmd.Command{Code: cmd.Face, Handles: one(), Sides: [2]int{0, 7}}, 1},
		{"a side of a handle", cmd.Command{Code: cmd.Ends, Handles: one(), Sides: [2]int{1}}, 1},
		{"a side of a handle that is none", cmd.Command{Code: cmd.Connected, Handles: two(), Sides: [2]int{0, -1}}, 1},
		{"a side of nothing", cmd.Command{Code: cmd.Dump, Sides: [2]int{1}}, 1},
		{"a handle", cmd.Command{Code: cmd.AddVertex, Handles: one()}, 1},
		{"a second handle alone", cmd.Command{Code: cmd.Counts, Handles: [2]api.Handle{{}, {At: 1}}}, 1},
		{"a second handle", cmd.Command{Code: cmd.Weigh, Handles: two()}, 1},
		{"a second dart's handle", cmd.Command{Code: cmd.Next, Handles: two()}, 1},
		{"an age alone", cmd.Command{Code: cmd.Load, Handles: [2]api.Handle{{Age: 1}}}, 1},
		{"a weight", cmd.Command{Code: cmd.SameFace, Handles: two(), W: 1}, 1},
		{"a weight below 0", cmd.Command{Code: cmd.Sum, W: -1}, 1},
		{"data", cmd.Command{Code: cmd.Insert, Handles: two(), W: 4, Data: []byte{0}}, 1},
		{"data that is too long, of nothing", cmd.Command{Code: cmd.Dump, Data: long}, 1},
		{"a weight, and data that is too long", cmd.Command{Code: cmd.Load, W: 1, Data: long}, 1},
		{"data that is too long", cmd.Command{Code: cmd.Load, Data: long}, 2},
		{"no data, but a list", cmd.Command{Code: cmd.Dump, Data: []byte{}}, 0},
		{"a loaded list of nothing", cmd.Command{Code: cmd.Load, Data: []byte{}}, 0},
	} {
		checkErr(t, x.what, cmd.Check(x.c), x.want)
		checkCommand(t, x.c)
	}
}

// CM1: codes of no command, whatever else it has.
func TestWrongCodes(t *testing.T) {
	for _, code := range wrongCodes {
		for _, c := range []cmd.Command{{}, {Handles: one()}, {Handles: two(), Sides: [2]int{1, 1}, W: 4}, {Sides: [2]int{-1, -1}}, {Data: []byte("a")}} {
			c.Code = code
			checkErr(t, "Check of "+tell(c), cmd.Check(c), 10)
			checkCommand(t, c)
		}
	}
}

// eachSide goes over lists of two sides.
func eachSide(l []int, try func([2]int)) {
	for _, a := range l {
		for _, b := range l {
			try([2]int{a, b})
		}
	}
}

// CM1 to CM3: each code with each part zero and not, and all kinds of sides.
func TestEachPart(t *testing.T) {
	handles := []api.Handle{{}, {Age: 7}, {At: 1 << 31}}
	sides := []int{-1, 0, 1, 2, 3, 1 << 32}
	for code := -1; code <= 19; code++ {
		for _, a := range handles {
			for _, b := range handles {
				eachSide(sides, func(s [2]int) {
					for _, w := range []int32{0, -1, 1 << 30} {
						for _, data := range [][]byte{nil, {}, {0}, {1, 2}} {
							checkCommand(t, cmd.Command{Code: code, Handles: [2]api.Handle{a, b}, Sides: s, W: w, Data: data})
						}
					}
				})
			}
		}
	}
}

// CM1: sides of nothing, in each code's first and second place.
func TestWrongSides(t *testing.T) {
	for code := 1; code <= 17; code++ {
		eachSide(append([]int{0, 1, 2}, wrongSides...), func(s [2]int) {
			c := full(code)
			c.Sides = s
			checkCommand(t, c)
		})
	}
}

// CM1, CM2: numbers at the edges of their bytes, each of them alone.
func TestNumbers(t *testing.T) {
	for code := 1; code <= 17; code++ {
		for _, v := range far {
			for i := range 2 {
				c := full(code)
				c.Handles[i].Age = v
				checkCommand(t, c)
				c = full(code)
				c.Handles[i].At = v
				checkCommand(t, c)
				checkCommand(t, cmd.Command{Code: code, Handles: [2]api.Handle{{Age: v, At: v}}})
			}
		}
		for _, w := range weights {
			c := full(code)
			c.W = w
			checkCommand(t, c)
			checkCommand(t, cmd.Command{Code: code, W: w})
		}
	}
}

// CM2: bytes of no command, written out: of several errors the first one.
func TestDecodeWrittenOut(t *testing.T) {
	h := "\x01\x02\x03\x04\x05\x06\x07\x08"
	for _, x := range []struct {
		what, b string
		want    api.Errno
	}{
		{"nothing", "", 10},
		{"None", "\x00", 10},
		{"Codes", "\x12", 10},
		{"no code, and what a dart has", "\xff\x01" + h, 10},
		{"too many", "\x0b\x00", 11},
		{"too few", "\x02\x01", 11},
		{"a code alone", "\x02", 11},
		{"a byte too few", "\x02" + h[:7], 11},
		{"a byte too many", "\x02" + h + "\x00", 11},
		{"no second handle", "\x06" + h, 11},
		{"no weight", "\x05" + h, 11},
		{"half a weight", "\x05" + h + "\x00\x00", 11},
		{"a weight that it has not", "\x08" + h + "\x00\x00\x00\x00", 11},
		{"no side", "\x0a" + h, 11},
		{"no side that is one, and too few", "\x0a\x09" + h[:7], 11},
		{"no side that is one, and too many", "\x0a\x09" + h + "\x00", 11},
		{"a dart's side 2", "\x0a\x02" + h, 3},
		{"a dart's side 255", "\x11\xff" + h, 3},
		{"the second dart's side 2", "\x07\x00" + h + "\x02" + h, 3},
		{"a corner's side 3", "\x03\x03" + h + "\x00" + h + "\x00\x00\x00\x00", 3},
		{"the second corner's side 128", "\x03\x00" + h + "\x80" + h + "\x00\x00\x00\x00", 3},
		{"corners", "\x03\x02" + h + "\x02" + h + "\x00\x00\x00\x00", 0},
		{"nothing to load", "\x0f", 0},
	} {
		_, err := cmd.Decode([]byte(x.b))
		checkErr(t, x.what, err, x.want)
		checkBytes(t, []byte(x.b))
	}
	c, err := cmd.Decode(nil)
	checkErr(t, "Decode of nil", err, 10)
	if !same(c, cmd.Command{}) {
		t.Errorf("Decode of nil: %v", c)
	}
}

// CM2, CM3: all bytes up to two, and each code with all numbers of bytes behind.
func TestDecodeSizes(t *testing.T) {
	checkBytes(t, nil)
	for code := range 256 {
		checkBytes(t, []byte{byte(code)})
		for x := range 256 {
			checkBytes(t, []byte{byte(code), byte(x)})
		}
		for n := range 40 {
			for _, x := range []byte{0, 1, 2, 3, 128, 255} {
				checkBytes(t, append([]byte{byte(code)}, bytes.Repeat([]byte{x}, n)...))
			}
		}
	}
}

// CM2, CM3: each byte of each command made any other one.
func TestDecodeEachByte(t *testing.T) {
	for code := 1; code <= 17; code++ {
		b := wantBytes(full(code))
		for i := range b {
			was := b[i]
			for x := range 256 {
				b[i] = byte(x)
				checkBytes(t, b)
			}
			b[i] = was
		}
	}
}

// CM1 to CM3: commands and bytes by chance.
func TestByChance(t *testing.T) {
	r := rand.New(rand.NewSource(19))
	for range 100000 {
		c := full(1 + r.Intn(17))
		for i := range c.Handles {
			if r.Intn(9) == 0 || c.Handles[i] != (api.Handle{}) {
				c.Handles[i] = api.Handle{Age: r.Uint32(), At: r.Uint32()}
			}
			if r.Intn(3) > 0 {
				c.Sides[i] = r.Intn(3)
			}
		}
		if c.W != 0 || r.Intn(9) == 0 {
			c.W = int32(r.Uint32())
		}
		if len(c.Data) > 0 || r.Intn(9) == 0 {
			c.Data = make([]byte, r.Intn(40))
			r.Read(c.Data)
		}
		checkCommand(t, c)
	}
	for range 100000 {
		b := make([]byte, 1+r.Intn(26))
		r.Read(b)
		b[0] = byte(r.Intn(20))
		if len(b) > 10 && r.Intn(2) == 0 {
			b[1], b[10] = byte(r.Intn(3)), byte(r.Intn(3))
		}
		checkBytes(t, b)
	}
}

// scribble writes over a list, spare room and all.
func scribble(b []byte) {
	b = b[:cap(b)]
	for i := range b {
		b[i] ^= 0xff
	}
}

// Rule 3: Encode's bytes are new memory, and the data is neither changed nor kept.
func TestEncodeAlone(t *testing.T) {
	for _, code := range []int{cmd.Load, cmd.Insert, cmd.Sum} {
		c := full(code)
		all := append(slices.Clone(c.Data), 5, 6, 7)
		c.Data = all[:len(c.Data)]
		held := slices.Clone(all)
		want := wantBytes(c)
		b, err := cmd.Encode(c)
		checkErr(t, "Encode", err, 0)
		other, err := cmd.Encode(c)
		checkErr(t, "Encode", err, 0)
		scribble(b)
		if !bytes.Equal(all, held) || !bytes.Equal(other, want) {
			t.Fatalf("%s: a write into the answer is seen", tell(c))
		}
		scribble(all)
		if !bytes.Equal(other, want) {
			t.Fatalf("%s: a write into the data is seen", tell(c))
		}
	}
}

// Rule 3: Decode's data is new memory, and the bytes are neither changed nor kept.
func TestDecodeAlone(t *testing.T) {
	for _, data := range []string{"abc", ""} {
		all := []byte("\x0f" + data + "xyz")
		b := all[:1+len(data)]
		held := slices.Clone(all)
		c, err := cmd.Decode(b)
		checkErr(t, "Decode", err, 0)
		other, err := cmd.Decode(b)
		checkErr(t, "Decode", err, 0)
		scribble(c.Data)
		if !bytes.Equal(all, held) || string(other.Data) != data {
			t.Fatal("a write into the data is seen")
		}
		scribble(all)
		if string(other.Data) != data {
			t.Fatal("a write into the bytes is seen")
		}
	}
}

// Rule 4: what was done before is not seen.
func TestNothingKept(t *testing.T) {
	for range 3 {
		for code := 1; code <= 17; code++ {
			checkCommand(t, full(code))
			checkCommand(t, cmd.Command{Code: code, Sides: [2]int{3, 3}, W: 9, Data: []byte("no")})
			checkBytes(t, wantBytes(full(code)))
			checkBytes(t, []byte{byte(code), 9})
		}
	}
}
