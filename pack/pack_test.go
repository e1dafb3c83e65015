package pack

import (
	"strings"
	"testing"

	"bailey/scan"
)

func TestNumber(t *testing.T) {
	for _, c := range []struct {
		x    uint64
		n    int
		want string
	}{{0x0102, 2, "\x02\x01"}, {0x01020304, 4, "\x04\x03\x02\x01"}, {0, 4, "\x00\x00\x00\x00"}, {0x010203, 2, "\x03\x02"}, {5, 0, ""}} {
		if got := Number(c.x, c.n); got != c.want {
			t.Errorf("Number(%x, %d) = %x, want %x", c.x, c.n, got, c.want)
		}
	}
}

func TestTextAndByte(t *testing.T) {
	if s := Text(""); s != "\x00" {
		t.Errorf("the text of no bytes: %q", s)
	}
	if s := Text("abc"); s != "\x03abc" {
		t.Errorf("the text of three bytes: %q", s)
	}
	if s := Byte(255); s != "\xff" {
		t.Errorf("the byte 255: %q", s)
	}
}

// What is written here, package scan reads.
func TestReadBack(t *testing.T) {
	long := strings.Repeat("x", 255)
	r := scan.New(Text(long) + Number(1<<40+7, 8) + Byte(200))
	if s, x, b := r.Text(), r.Number(8), r.Byte(); s != long || x != 1<<40+7 || b != 200 {
		t.Errorf("read back: %q, %d, %d", s, x, b)
	}
	r.End()
}
