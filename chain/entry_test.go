package chain

import (
	"strings"
	"testing"

	"bailey/api"
)

// What is written is what Verify reads, byte for byte in the document's order.
func TestBytesOfEntries(t *testing.T) {
	who, rest, more := hashOf("who"), hashOf("rest"), hashOf("more")
	e := Entry{Op: 'P', Who: who, Path: "a/b", Rest: rest, Error: api.ErrFull, More: more}
	ahead := hashOf("ahead")
	want := string(ahead[:]) + "\x04\x03\x02\x01" + "P" + string(who[:]) + "\x03a/b" + string(rest[:]) + "\x05" + string(more[:])
	if got := e.Bytes(ahead, 0x01020304); got != want {
		t.Errorf("P9: the bytes of an entry are %x, want %x", got, want)
	}
	if got := Frame(want); got != "\x8a\x00"+want {
		t.Errorf("P9: the frame is %x", got)
	}
	if got := Frame(strings.Repeat("x", 0x0102))[:2]; got != "\x02\x01" {
		t.Errorf("P9: a frame's length is %x, want the low byte first", got)
	}
}

func TestVerifyTakesWrittenEntries(t *testing.T) {
	log, last := "", api.Hash{}
	for n, e := range []Entry{{Op: 'P', Path: "a"}, {Error: api.ErrForm}, {Op: 'L'}, {Op: 'R', Error: api.ErrNone}} {
		entry := e.Bytes(last, n)
		log += Frame(entry)
		last = hashOf(entry)
		expect(t, "a written log", log, n+1, last, api.OK, n+1)
	}
}

func TestFirstFrame(t *testing.T) {
	log, _ := chained(hashOf, sample()...)
	for range sample() {
		f := FirstFrame(log)
		if _, _, ok := readFrame(f); !ok || !strings.HasPrefix(log, f) || f != Frame(f[sizeBytes:]) {
			t.Fatalf("P9: the first frame is %x", f)
		}
		log = log[len(f):]
	}
	if log != "" {
		t.Errorf("P9: behind all frames there is %x", log)
	}
	// What is no log is told whole, so that whoever goes through it comes to an end.
	for _, s := range []string{"", "x", "\x05\x00", "\xff\xff123"} {
		if f := FirstFrame(s); f != s {
			t.Errorf("FirstFrame(%q) = %q", s, f)
		}
	}
}
