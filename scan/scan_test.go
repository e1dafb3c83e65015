package scan

import (
	"strings"
	"testing"

	"bailey/api"
)

// givesUp tells whether a reading gives up.
func givesUp(read func()) (gaveUp bool) {
	defer func() { gaveUp = recover() != nil }()
	read()
	return false
}

func TestPieces(t *testing.T) {
	r := New("ab\x01\x02\x03\x04\x00\x03xyz" + strings.Repeat("h", 32))
	if s := r.Bytes(2); s != "ab" {
		t.Errorf("Bytes: %q", s)
	}
	if c := r.Byte(); c != 1 {
		t.Errorf("Byte: %d", c)
	}
	if x := r.Number(3); x != 0x040302 {
		t.Errorf("Number: %x, want the low byte first", x)
	}
	if s := r.Text(); s != "" {
		t.Errorf("Text of no bytes: %q", s)
	}
	if s := r.Text(); s != "xyz" {
		t.Errorf("Text: %q", s)
	}
	if !givesUp(r.End) {
		t.Errorf("End takes bytes that are left over")
	}
	if s := r.Left(); s != strings.Repeat("h", 32) {
		t.Errorf("Left: %q", s)
	}
	if h := r.Hash(); h != api.Hash([]byte(strings.Repeat("h", 32))) {
		t.Errorf("Hash: %x", h)
	}
	if givesUp(r.End) {
		t.Errorf("End does not take the end")
	}
}

func TestGreatNumber(t *testing.T) {
	if x := New(strings.Repeat("\xff", 8)).Number(8); x != 1<<64-1 {
		t.Errorf("Number: %x", x)
	}
}

func TestTooEarlyAnEnd(t *testing.T) {
	for name, read := range map[string]func(){
		"Bytes":        func() { New("ab").Bytes(3) },
		"Byte":         func() { New("").Byte() },
		"Number":       func() { New("abc").Number(4) },
		"Text":         func() { New("\x03ab").Text() },
		"no Text":      func() { New("").Text() },
		"Hash":         func() { New(strings.Repeat("h", 31)).Hash() },
		"Want":         func() { Want(false) },
		"a long Text":  func() { New("\xff" + strings.Repeat("h", 254)).Text() },
		"another Byte": func() { r := New("a"); r.Byte(); r.Byte() },
	} {
		if !givesUp(read) {
			t.Errorf("%s does not give up", name)
		}
	}
	if givesUp(func() { Want(true) }) || givesUp(func() { New("\xff" + strings.Repeat("h", 255)).Text() }) {
		t.Errorf("gives up on what is right")
	}
}
