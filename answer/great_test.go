package answer_test

import (
	"bytes"
	"strings"
	"testing"

	"plait/answer"
	"plait/api"
	"plait/cmd"
)

// AN1 to AN3: as much data as there may be, and a byte more.
func TestGreatData(t *testing.T) {
	all := make([]byte, longest+2)
	all[1], all[longest], all[longest+1] = 7, 0xab, 9
	a := answer.Answer{Data: all[1 : longest+1]}
	b, err := answer.Encode(cmd.Dump, a)
	checkErr(t, "Encode", err, 0)
	if len(b) != api.MaxFrame || !bytes.Equal(b, all[:longest+1]) {
		t.Fatal("Encode: other bytes")
	}
	s, err := answer.Text(cmd.Dump, a)
	checkErr(t, "Text", err, 0)
	if s != "07"+strings.Repeat("00", longest-2)+"ab" {
		t.Fatal("Text: another text")
	}
	back, err := answer.Decode(cmd.Dump, b)
	checkErr(t, "Decode", err, 0)
	if !same(back, a) {
		t.Fatal("Decode of Encode: another answer")
	}
	a.Data = all[1:]
	b, err = answer.Encode(cmd.Dump, a)
	checkErr(t, "Encode", err, 1)
	s, err = answer.Text(cmd.Dump, a)
	checkErr(t, "Text", err, 1)
	if len(b) > 0 || s != "" {
		t.Fatal("bytes or a text beside an error")
	}
	back, err = answer.Decode(cmd.Dump, all)
	checkErr(t, "Decode", err, 3)
	if !same(back, answer.Answer{}) {
		t.Fatal("Decode: an answer beside an error")
	}
}

// great are as many darts as there may be, and one more.
func great() []answer.Side {
	l := make([]answer.Side, most+1)
	for i := range l {
		l[i] = answer.Side{Edge: api.Handle{Age: uint32(i) * 77777, At: uint32(i)}, At: i % 2}
	}
	return l
}

// AN1 to AN3: as many darts as there may be, and one more.
func TestGreatFace(t *testing.T) {
	l := great()
	a := answer.Answer{Darts: l[:most]}
	b, err := answer.Encode(cmd.Face, a)
	checkErr(t, "Encode", err, 0)
	if !bytes.Equal(b, wantBytes(cmd.Face, a)) {
		t.Fatal("Encode: other bytes")
	}
	s, err := answer.Text(cmd.Face, a)
	checkErr(t, "Text", err, 0)
	if !strings.HasPrefix(s, "0#0.0 1#77777.1 2#155554.0 ") || strings.Count(s, " ") != most-1 || strings.Count(s, "#") != most {
		t.Fatal("Text: another text")
	}
	back, err := answer.Decode(cmd.Face, b)
	checkErr(t, "Decode", err, 0)
	if !same(back, a) {
		t.Fatal("Decode of Encode: another answer")
	}
	a.Darts = l
	more := wantBytes(cmd.Face, a)
	b, err = answer.Encode(cmd.Face, a)
	checkErr(t, "Encode", err, 1)
	s, err = answer.Text(cmd.Face, a)
	checkErr(t, "Text", err, 1)
	if len(b) > 0 || s != "" {
		t.Fatal("bytes or a text beside an error")
	}
	back, err = answer.Decode(cmd.Face, more)
	checkErr(t, "Decode", err, 3)
	if !same(back, answer.Answer{}) {
		t.Fatal("Decode: an answer beside an error")
	}
}

// AN1: bytes that are no answer's, as many as go into a frame, are told at once; so
// are a few that tell of many darts.
func TestGreatWrong(t *testing.T) {
	all := make([]byte, longest+2)
	all[1], all[2], all[3], all[4] = 0, 0x40, 0, 1
	for range 100000 {
		for _, code := range []int{0, cmd.AddVertex, cmd.Load, cmd.Bridge, cmd.FaceLen, cmd.Face, cmd.Counts, cmd.Sum, cmd.Dump, cmd.Ends, cmd.Next} {
			if _, err := answer.Decode(code, all); err != api.ErrForm {
				t.Fatalf("Decode of %d: error %v", code, err)
			}
		}
		if _, err := answer.Decode(cmd.Face, []byte{0, 0, 0x40, 0, 0, 1}); err != api.ErrForm {
			t.Fatalf("Decode of a face: error %v", err)
		}
		if _, err := answer.Encode(cmd.Dump, answer.Answer{Data: all}); err != api.ErrArg {
			t.Fatalf("Encode: error %v", err)
		}
		if _, err := answer.Text(cmd.Load, answer.Answer{Data: all}); err != api.ErrArg {
			t.Fatalf("Text: error %v", err)
		}
	}
}

// AN3: many answers, one behind the other.
func TestMany(t *testing.T) {
	for i := range 1 << 19 {
		a := answer.Answer{Darts: []answer.Side{{Edge: api.Handle{Age: 1, At: uint32(i)}, At: i % 2}}}
		b, err := answer.Encode(cmd.Next, a)
		if err != nil || len(b) != 10 {
			t.Fatalf("Encode: %v, %v", b, err)
		}
		if back, err := answer.Decode(cmd.Next, b); err != nil || !same(back, a) {
			t.Fatalf("Decode: %v, %v", back, err)
		}
	}
}
