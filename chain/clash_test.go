package chain

import (
	"strings"
	"testing"

	"bailey/api"
)

// pathOnly is a digest that hangs on an entry's path alone: with it there are logs that clash.
func pathOnly(s string) api.Hash {
	at := 32 + 4 + 1 + 32
	return api.Hash{1, s[at], s[at+1]}
}

// expectClash wants two texts that differ and have one digest: the entries with that place.
func expectClash(t *testing.T, a []entry, b []entry, place int) {
	t.Helper()
	logA, headA := chained(pathOnly, a...)
	logB, headB := chained(pathOnly, b...)
	if headA != headB {
		t.Fatalf("the logs have heads that differ")
	}
	x, y, e := clash(logA, logB, pathOnly)
	if e != api.OK || x == y || pathOnly(x) != pathOnly(y) {
		t.Errorf("P5: Clash answers %q, %q, %d, want two texts that differ and have one digest", x, y, e)
	}
	wantX, _ := chained(pathOnly, a[:place+1]...)
	wantY, _ := chained(pathOnly, b[:place+1]...)
	if x == "" || y == "" || !strings.HasSuffix(wantX, frame(x)) || !strings.HasSuffix(wantY, frame(y)) {
		t.Errorf("P5: Clash answers %q, %q, want the entries %d", x, y, place)
	}
}

func TestClashTellsTwoTexts(t *testing.T) {
	p := func(path string, tag byte) entry { return entry{op: 'P', path: path, tag: tag} }
	// One entry, the first, one between, the last.
	expectClash(t, []entry{p("a", 1)}, []entry{p("a", 2)}, 0)
	expectClash(t, []entry{p("a", 1), p("b", 1), p("c", 1)}, []entry{p("a", 2), p("b", 1), p("c", 1)}, 0)
	expectClash(t, []entry{p("a", 1), p("b", 1), p("c", 1)}, []entry{p("a", 1), p("b", 2), p("c", 1)}, 1)
	expectClash(t, []entry{p("a", 1), p("b", 1), p("c", 1)}, []entry{p("a", 1), p("b", 1), p("c", 2)}, 2)
	// Several differ; those ahead of the last of these have digests that differ.
	expectClash(t, []entry{p("a", 1), p("b", 1), p("c", 1)}, []entry{p("a", 2), p("b", 2), p("c", 1)}, 1)
	expectClash(t, []entry{p("a", 1), p("x", 1), p("c", 1)}, []entry{p("a", 1), p("y", 1), p("c", 1)}, 2)
	expectClash(t, []entry{p("x", 1), p("b", 1), p("c", 1)}, []entry{p("y", 1), p("b", 1), p("c", 1)}, 1)
	// The answers differ, not the tags.
	expectClash(t, []entry{{op: 'G', path: "b"}, p("b", 3)}, []entry{{op: 'G', path: "b", code: 4}, p("b", 3)}, 0)
}

func TestClashOfLogsWithEntriesOfOtherLengths(t *testing.T) {
	one := func(string) api.Hash { return api.Hash{5} }
	a, _ := chained(one, entry{op: 'P', path: "a"}, entry{op: 'P', path: "abc"})
	b, _ := chained(one, entry{op: 'P', path: "abcd"}, entry{op: 'T'})
	x, y, e := clash(a, b, one)
	if e != api.OK || !strings.HasSuffix(a, frame(x)) || !strings.HasSuffix(b, frame(y)) || x == y {
		t.Errorf("P5: Clash answers %q, %q, %d", x, y, e)
	}
	c, _ := chained(one, entry{op: 'P', path: "a"})
	if x, y, e := clash(a, c, one); x != "" || y != "" || e != api.ErrArg {
		t.Errorf("P5: logs of two entries and of one with one head: %q, %q, %d, want ErrArg", x, y, e)
	}
}

func TestClashOfWhatDoesNotClash(t *testing.T) {
	long, _ := chained(hashOf, sample()...)
	short, _ := chained(hashOf, sample()[:8]...)
	changed := sample()
	changed[8].tag = 1
	last, _ := chained(hashOf, changed...)
	changed[0].tag = 1
	first, _ := chained(hashOf, changed...)
	unchained := []byte(long)
	unchained[2+40] ^= 1
	logs := []string{"", long, short, last, first, string(unchained), long + "x", long[:len(long)-1], "x", "\x00\x00", frame("")}
	for _, a := range logs {
		for _, b := range logs {
			if x, y, e := Clash(a, b); x != "" || y != "" || e != api.ErrArg {
				t.Errorf("P5: Clash of %d and %d bytes answers %q, %q, %d, want ErrArg", len(a), len(b), x, y, e)
			}
		}
	}
}

// With a weak digest too the logs must be right ones, and not the same.
func TestClashOfWeakLogsThatAreWrong(t *testing.T) {
	a, _ := chained(pathOnly, entry{op: 'P', path: "a", tag: 1}, entry{op: 'P', path: "b"})
	b, _ := chained(pathOnly, entry{op: 'P', path: "a", tag: 2}, entry{op: 'P', path: "b"})
	c, _ := chained(pathOnly, entry{op: 'P', path: "a", tag: 2}, entry{op: 'P', path: "c"})
	for _, l := range [][2]string{{a, a}, {a, b + "x"}, {a + "x", b}, {a + "x", b + "x"}, {a, b[:len(b)-1]}, {a, c}, {a, ""}, {a, b + b}} {
		if x, y, e := clash(l[0], l[1], pathOnly); x != "" || y != "" || e != api.ErrArg {
			t.Errorf("P5: Clash of %d and %d bytes answers %q, %q, %d, want ErrArg", len(l[0]), len(l[1]), x, y, e)
		}
	}
}
