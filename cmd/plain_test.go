package cmd_test

import (
	"bytes"
	"errors"
	"slices"
	"testing"

	"plait/api"
	"plait/cmd"
)

// longest is how many bytes a command's data has at most.
const longest = 1<<26 - 1

// layouts tells what each code's commands have, in its order: h a handle, d a dart,
// c a corner, w a weight, * bytes.
var layouts = map[int]string{
	1: "", 2: "h", 3: "ccw", 4: "h", 5: "hw", 6: "hh", 7: "dd", 8: "h", 9: "d",
	10: "d", 11: "", 12: "h", 13: "", 14: "", 15: "*", 16: "h", 17: "d",
}

// checkErr fails unless err is the number want (0: nil), as errors.As finds it.
func checkErr(t *testing.T, what string, err error, want api.Errno) {
	t.Helper()
	if want == 0 {
		if err != nil {
			t.Fatalf("%s: error %v, want none", what, err)
		}
		return
	}
	var e api.Errno
	if !errors.As(err, &e) || e != want {
		t.Fatalf("%s: error %v, want %v", what, err, want)
	}
}

// same tells whether two commands are one.
func same(a, b cmd.Command) bool {
	return a.Code == b.Code && a.Handles == b.Handles && a.Sides == b.Sides && a.W == b.W && bytes.Equal(a.Data, b.Data)
}

// number are the four bytes of a number.
func number(v uint32) []byte {
	return []byte{byte(v >> 24), byte(v >> 16), byte(v >> 8), byte(v)}
}

// isSide tells whether there is such a side, of a dart or of a corner.
func isSide(part rune, side int) bool {
	return part == 'd' && (side == 0 || side == 1) || part == 'c' && (side == 0 || side == 1 || side == 2)
}

// wantCheck is the error of a command, by the chapter's words (0: none).
func wantCheck(c cmd.Command) api.Errno {
	layout, ok := layouts[c.Code]
	if !ok {
		return 10
	}
	at := 0
	for _, part := range layout {
		switch part {
		case 'd', 'c':
			if !isSide(part, c.Sides[at]) {
				return 3
			}
			c.Sides[at] = 0
			c.Handles[at] = api.Handle{}
			at++
		case 'h':
			c.Handles[at] = api.Handle{}
			at++
		case 'w':
			c.W = 0
		}
	}
	long := len(c.Data) > longest
	if layout == "*" {
		c.Data = nil
	}
	if !same(c, cmd.Command{Code: c.Code}) {
		return 1
	}
	if long {
		return 2
	}
	return 0
}

// wantBytes are the bytes of a command that can be.
func wantBytes(c cmd.Command) []byte {
	out := []byte{byte(c.Code)}
	at := 0
	for _, part := range layouts[c.Code] {
		switch part {
		case 'h', 'd', 'c':
			if part != 'h' {
				out = append(out, byte(c.Sides[at]))
			}
			out = append(out, number(c.Handles[at].Age)...)
			out = append(out, number(c.Handles[at].At)...)
			at++
		case 'w':
			out = append(out, number(uint32(c.W))...)
		case '*':
			out = append(out, c.Data...)
		}
	}
	return out
}

// sizes are how many bytes each part has.
var sizes = map[rune]int{'h': 8, 'd': 9, 'c': 9, 'w': 4}

// wantDecode is the error of bytes, by the chapter's words (0: none).
func wantDecode(b []byte) api.Errno {
	if len(b) == 0 {
		return 10
	}
	layout, ok := layouts[int(b[0])]
	if !ok {
		return 10
	}
	if layout == "*" {
		if len(b)-1 > longest {
			return 11
		}
		return 0
	}
	want := 1
	for _, part := range layout {
		want += sizes[part]
	}
	if len(b) != want {
		return 11
	}
	at := 1
	for _, part := range layout {
		if part != 'h' && part != 'w' && !isSide(part, int(b[at])) {
			return 3
		}
		at += sizes[part]
	}
	return 0
}

// checkCommand fails unless Check and Encode answer what the words say of a
// command, and Decode answers it again, of its bytes.
func checkCommand(t *testing.T, c cmd.Command) {
	t.Helper()
	before := c
	before.Data = slices.Clone(c.Data)
	want := wantCheck(c)
	err := cmd.Check(c)
	if err != nil || want != 0 {
		checkErr(t, "Check of "+tell(c), err, want)
	}
	b, err := cmd.Encode(c)
	if err != nil || want != 0 {
		checkErr(t, "Encode of "+tell(c), err, want)
	}
	if !same(c, before) {
		t.Fatalf("%s: the argument was changed", tell(c))
	}
	if want != 0 {
		if len(b) != 0 {
			t.Fatalf("Encode of %s: bytes beside an error", tell(c))
		}
		return
	}
	if right := wantBytes(c); !bytes.Equal(b, right) {
		t.Fatalf("Encode of %s: %v, want %v", tell(c), b, right)
	}
	back, err := cmd.Decode(b)
	if err != nil || !same(back, c) {
		t.Fatalf("Decode of Encode: %s, %v, want %s", tell(back), err, tell(c))
	}
}

// checkBytes fails unless Decode answers what the words say of bytes, and Encode
// answers them again, of the command.
func checkBytes(t *testing.T, b []byte) {
	t.Helper()
	before := slices.Clone(b)
	want := wantDecode(b)
	c, err := cmd.Decode(b)
	if err != nil || want != 0 {
		checkErr(t, "Decode of "+tellBytes(b), err, want)
	}
	if !bytes.Equal(b, before) {
		t.Fatalf("Decode of %s: the argument was changed", tellBytes(before))
	}
	if want != 0 {
		if !same(c, cmd.Command{}) {
			t.Fatalf("Decode of %s: a command beside an error", tellBytes(b))
		}
		return
	}
	if e := wantCheck(c); e != 0 {
		t.Fatalf("Decode of %s: a command that can't be: %v", tellBytes(b), e)
	}
	if !bytes.Equal(wantBytes(c), b) {
		t.Fatalf("Decode of %s: another command: %s", tellBytes(b), tell(c))
	}
	back, err := cmd.Encode(c)
	if err != nil || !bytes.Equal(back, b) {
		t.Fatalf("Encode of Decode: %s, %v, want %s", tellBytes(back), err, tellBytes(b))
	}
}
