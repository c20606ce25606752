package cmd_test

import (
	"bytes"
	"testing"

	"plait/api"
	"plait/cmd"
)

// CM1 to CM3: as much data as there may be, and a byte more.
func TestGreatData(t *testing.T) {
	all := make([]byte, longest+2)
	all[0], all[1], all[longest], all[longest+1] = cmd.Load, 7, 8, 9
	c := cmd.Command{Code: cmd.Load, Data: all[1 : longest+1]}
	checkErr(t, "Check", cmd.Check(c), 0)
	b, err := cmd.Encode(c)
	checkErr(t, "Encode", err, 0)
	if len(b) != api.MaxFrame || !bytes.Equal(b, all[:longest+1]) {
		t.Fatal("Encode: other bytes")
	}
	back, err := cmd.Decode(b)
	checkErr(t, "Decode", err, 0)
	if !same(back, c) {
		t.Fatal("Decode of Encode: another command")
	}
	c.Data = all[1:]
	checkErr(t, "Check", cmd.Check(c), 2)
	b, err = cmd.Encode(c)
	checkErr(t, "Encode", err, 2)
	if len(b) > 0 {
		t.Fatal("Encode: bytes beside an error")
	}
	back, err = cmd.Decode(all)
	checkErr(t, "Decode", err, 11)
	if !same(back, cmd.Command{}) {
		t.Fatal("Decode: a command beside an error")
	}
}

// CM2: bytes that are no command's, as many as go into a frame, are told at once.
func TestGreatWrong(t *testing.T) {
	all := make([]byte, longest+2)
	for range 100000 {
		for code, want := range map[byte]api.Errno{0: 10, cmd.Counts: 11, cmd.Insert: 11, cmd.Face: 11, cmd.Codes: 10, 255: 10} {
			all[0] = code
			_, err := cmd.Decode(all)
			if err != want {
				t.Fatalf("Decode of %d: error %v, want %v", code, err, want)
			}
		}
		if err := cmd.Check(cmd.Command{Code: cmd.Load, Data: all}); err != api.ErrLong {
			t.Fatalf("Check: error %v", err)
		}
		if err := cmd.Check(cmd.Command{Code: cmd.Load, Data: all[:longest]}); err != nil {
			t.Fatalf("Check: error %v", err)
		}
	}
}

// CM3: many commands, one behind the other.
func TestMany(t *testing.T) {
	for i := range 1 << 20 {
		c := cmd.Command{Code: cmd.Insert, Sides: [2]int{i % 3, i / 3 % 3}, W: int32(-i)}
		c.Handles = [2]api.Handle{{Age: 1, At: uint32(i)}, {Age: uint32(i), At: 2}}
		b, err := cmd.Encode(c)
		if err != nil || len(b) != 23 {
			t.Fatalf("Encode: %v, %v", b, err)
		}
		if back, err := cmd.Decode(b); err != nil || !same(back, c) {
			t.Fatalf("Decode: %v, %v", back, err)
		}
	}
}
