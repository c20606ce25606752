package answer_test

import (
	"bytes"
	"errors"
	"fmt"
	"slices"
	"strings"
	"testing"

	"plait/answer"
	"plait/api"
	"plait/sphere"
)

const (
	// longest is how many bytes an answer's data has at most, and most how many
	// darts there are at most.
	longest = 1<<26 - 1
	most    = 1 << 22
)

// layouts tells what each code's answers have: H a handle, B a yes or no, N a
// number, L a list of darts, D a dart, C counts, S a sum, * bytes.
var layouts = map[int]string{
	1: "H", 2: "", 3: "H", 4: "", 5: "", 6: "B", 7: "B", 8: "B", 9: "N",
	10: "L", 11: "C", 12: "B", 13: "S", 14: "*", 15: "", 16: "HH", 17: "D",
}

// checkErr fails unless err is the number want (0: nil), as errors.As finds it.
func checkErr(t *testing.T, what string, err error, want api.Errno) {
	t.Helper()
	if want == 0 {
		if err != nil {
			t.Fatalf("%s: error %v, want none", what, err)
		}
		return
	}
	var e api.Errno
	if !errors.As(err, &e) || e != want {
		t.Fatalf("%s: error %v, want %v", what, err, want)
	}
}

// same tells whether two answers are one.
func same(a, b answer.Answer) bool {
	return a.Err == b.Err && slices.Equal(a.Handles, b.Handles) && a.Is == b.Is && a.N == b.N &&
		slices.Equal(a.Darts, b.Darts) && a.Counts == b.Counts && a.Sum == b.Sum && bytes.Equal(a.Data, b.Data)
}

// clone is an answer that shares nothing with another.
func clone(a answer.Answer) answer.Answer {
	a.Handles, a.Darts, a.Data = slices.Clone(a.Handles), slices.Clone(a.Darts), slices.Clone(a.Data)
	return a
}

// number are the bytes of a number.
func number(v uint64, n int) []byte {
	b := make([]byte, n)
	for i := n - 1; i >= 0; i-- {
		b[i] = byte(v % 256)
		v /= 256
	}
	return b
}

func goes(n int) bool { return n >= 0 && n <= 4294967295 }

// wantCheck is the error of an answer of a code, by the chapter's words (0: none).
func wantCheck(code int, a answer.Answer) api.Errno {
	if code < 0 || code > 17 {
		return 10
	}
	layout, ok := layouts[code]
	if a.Err != 0 {
		layout, ok = "", a.Err >= 1 && a.Err <= 255
	}
	if !ok || len(a.Handles) != strings.Count(layout, "H") {
		return 1
	}
	a.Err, a.Handles = 0, nil
	for _, d := range a.Darts {
		if d.At != 0 && d.At != 1 {
			return 1
		}
	}
	switch layout {
	case "B":
		a.Is = false
	case "N":
		if !goes(a.N) {
			return 1
		}
		a.N = 0
	case "L":
		if len(a.Darts) > most {
			return 1
		}
		a.Darts = nil
	case "D":
		if len(a.Darts) != 1 {
			return 1
		}
		a.Darts = nil
	case "C":
		if !goes(a.Counts.V) || !goes(a.Counts.E) || !goes(a.Counts.F) || !goes(a.Counts.C) {
			return 1
		}
		a.Counts = sphere.Counts{}
	case "S":
		a.Sum = 0
	case "*":
		if len(a.Data) > longest {
			return 1
		}
		a.Data = nil
	}
	if !same(a, answer.Answer{}) {
		return 1
	}
	return 0
}

func handleBytes(h api.Handle) []byte {
	return append(number(uint64(h.Age), 4), number(uint64(h.At), 4)...)
}

// wantBytes are the bytes of an answer that may be.
func wantBytes(code int, a answer.Answer) []byte {
	out := []byte{byte(a.Err)}
	if a.Err != 0 {
		return out
	}
	for _, h := range a.Handles {
		out = append(out, handleBytes(h)...)
	}
	switch layouts[code] {
	case "B":
		if a.Is {
			return append(out, 1)
		}
		return append(out, 0)
	case "N":
		return append(out, number(uint64(a.N), 4)...)
	case "L":
		out = append(out, number(uint64(len(a.Darts)), 4)...)
	case "C":
		for _, n := range []int{a.Counts.V, a.Counts.E, a.Counts.F, a.Counts.C} {
			out = append(out, number(uint64(n), 4)...)
		}
	case "S":
		return append(out, number(uint64(a.Sum), 8)...)
	case "*":
		return append(out, a.Data...)
	}
	for _, d := range a.Darts {
		out = append(append(out, byte(d.At)), handleBytes(d.Edge)...)
	}
	return out
}

// wantText is the text of an answer that may be.
func wantText(code int, a answer.Answer) string {
	if a.Err != 0 {
		return fmt.Sprintf("error %d", a.Err)
	}
	var l []string
	for _, h := range a.Handles {
		l = append(l, fmt.Sprintf("%d#%d", h.At, h.Age))
	}
	for _, d := range a.Darts {
		l = append(l, fmt.Sprintf("%d#%d.%d", d.Edge.At, d.Edge.Age, d.At))
	}
	switch layouts[code] {
	case "B":
		if a.Is {
			return "yes"
		}
		return "no"
	case "N":
		return fmt.Sprint(a.N)
	case "L":
		if len(l) == 0 {
			return "none"
		}
	case "C":
		return fmt.Sprintf("%d %d %d %d", a.Counts.V, a.Counts.E, a.Counts.F, a.Counts.C)
	case "S":
		return fmt.Sprint(a.Sum)
	case "*":
		if len(a.Data) == 0 {
			return "empty"
		}
		return fmt.Sprintf("%x", a.Data)
	case "":
		return "ok"
	}
	return strings.Join(l, " ")
}

// sizes are how many bytes each part has.
var sizes = map[rune]int{'H': 8, 'B': 1, 'N': 4, 'D': 9, 'C': 16, 'S': 8}

// isForm tells whether these are the bytes of an answer of a code from 0 to 17, by
// the chapter's words.
func isForm(code int, b []byte) bool {
	if len(b) == 0 {
		return false
	}
	if b[0] != 0 {
		return len(b) == 1
	}
	layout, ok := layouts[code]
	if !ok {
		return false
	}
	behind := b[1:]
	switch layout {
	case "*":
		return len(behind) <= longest
	case "L":
		if len(behind) < 4 {
			return false
		}
		n := 0
		for _, x := range behind[:4] {
			n = n*256 + int(x)
		}
		behind = behind[4:]
		if n > most || len(behind) != 9*n {
			return false
		}
		for i := range n {
			if behind[9*i] > 1 {
				return false
			}
		}
		return true
	}
	want := 0
	for _, part := range layout {
		want += sizes[part]
	}
	if len(behind) != want {
		return false
	}
	return layout != "B" && layout != "D" || behind[0] <= 1
}

// wantDecode is the error of bytes, by the chapter's words (0: none).
func wantDecode(code int, b []byte) api.Errno {
	if code < 0 || code > 17 {
		return 10
	}
	if !isForm(code, b) {
		return 3
	}
	return 0
}

// checkAnswer fails unless Encode and Text answer what the words say of an answer,
// and Decode answers it again, of its bytes.
func checkAnswer(t *testing.T, code int, a answer.Answer) {
	t.Helper()
	before := clone(a)
	want := wantCheck(code, a)
	b, err := answer.Encode(code, a)
	if err != nil || want != 0 {
		checkErr(t, "Encode of "+tell(code, a), err, want)
	}
	s, err := answer.Text(code, a)
	if err != nil || want != 0 {
		checkErr(t, "Text of "+tell(code, a), err, want)
	}
	if !same(a, before) {
		t.Fatalf("%s: the argument was changed", tell(code, before))
	}
	if want != 0 {
		if len(b) != 0 || s != "" {
			t.Fatalf("%s: bytes or a text beside an error", tell(code, a))
		}
		return
	}
	if right := wantBytes(code, a); !bytes.Equal(b, right) {
		t.Fatalf("Encode of %s: %v, want %v", tell(code, a), b, right)
	}
	if right := wantText(code, a); s != right {
		t.Fatalf("Text of %s: %q, want %q", tell(code, a), s, right)
	}
	back, err := answer.Decode(code, b)
	if err != nil || !same(back, a) {
		t.Fatalf("Decode of Encode: %s, %v, want %s", tell(code, back), err, tell(code, a))
	}
}

// checkBytes fails unless Decode answers what the words say of bytes, and Encode
// answers them again, of the answer.
func checkBytes(t *testing.T, code int, b []byte) {
	t.Helper()
	before := slices.Clone(b)
	want := wantDecode(code, b)
	a, err := answer.Decode(code, b)
	if err != nil || want != 0 {
		checkErr(t, "Decode of "+tellBytes(code, b), err, want)
	}
	if !bytes.Equal(b, before) {
		t.Fatalf("Decode of %s: the argument was changed", tellBytes(code, before))
	}
	if want != 0 {
		if !same(a, answer.Answer{}) {
			t.Fatalf("Decode of %s: an answer beside an error", tellBytes(code, b))
		}
		return
	}
	if wantCheck(code, a) != 0 || !bytes.Equal(wantBytes(code, a), b) {
		t.Fatalf("Decode of %s: another answer: %s", tellBytes(code, b), tell(code, a))
	}
	back, err := answer.Encode(code, a)
	if err != nil || !bytes.Equal(back, b) {
		t.Fatalf("Encode of Decode: %s, %v, want %s", tellBytes(code, back), err, tellBytes(code, b))
	}
}
