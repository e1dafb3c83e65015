package bailey_test

import (
	"encoding/hex"
	"math"
	"slices"
	"strings"
	"testing"

	"bailey/api"
	"bailey/bailey"
)

func begins(t *testing.T, what string, h api.Hash, want string) {
	t.Helper()
	if got := hex.EncodeToString(h[:]); !strings.HasPrefix(got, want) {
		t.Errorf("P3: %s is %s, want %s ..", what, got, want)
	}
}

// The first two rows of the document's examples.
func TestExamplesOfDigestsAndProofs(t *testing.T) {
	begins(t, "the digest of no bytes", bailey.Digest(""), "e3b0c442")
	begins(t, "the digest of abc", bailey.Digest("abc"), "ba7816bf")
	begins(t, "the tag", bailey.Tag("Jefe", "what do ya want for nothing?"), "5bdcc146")
	if bailey.Root([]string{"x"}) != bailey.Digest("\x00x") {
		t.Errorf("P3: the root of one string")
	}
	if p, e := bailey.Proof([]string{"x"}, 0); len(p) != 0 || e != api.OK {
		t.Errorf("P3: the proof of one string: %x, %d", p, e)
	}
	l := []string{"x", "y", "z"}
	if p, e := bailey.Proof(l, 2); e != api.OK || !slices.Equal(p, []api.Hash{bailey.Root(l[:2])}) {
		t.Errorf("P3: the proof of the third of three: %x, %d", p, e)
	}
}

func TestProofsProve(t *testing.T) {
	l := strings.Split("the quick brown fox jumps over the lazy dog and is gone", " ")
	root := bailey.Root(l)
	for i, s := range l {
		p, e := bailey.Proof(l, i)
		if e != api.OK || !bailey.Proves(s, i, len(l), p, root) {
			t.Errorf("P3: the proof of place %d does not prove it", i)
		}
		if bailey.Proves(s+"x", i, len(l), p, root) || bailey.Proves(s, i, len(l), p, bailey.Digest("")) {
			t.Errorf("P3: the proof of place %d proves what is not there", i)
		}
	}
	for _, i := range []int{-1, len(l), math.MaxInt, math.MinInt} {
		if p, e := bailey.Proof(l, i); p != nil || e != api.ErrArg {
			t.Errorf("P3: the proof of place %d: %x, %d, want nil, ErrArg", i, p, e)
		}
	}
}

// oneEntry is a first entry, of op R.
func oneEntry(tag string) string {
	return strings.Repeat("\x00", 36) + "R" + strings.Repeat(tag, 32) + "\x00" + strings.Repeat(tag, 32) + "\x00" + strings.Repeat(tag, 32)
}

func oneLog(entry string) string { return string([]byte{byte(len(entry)), 0}) + entry }

func TestVerify(t *testing.T) {
	entry := oneEntry("t")
	for _, c := range []struct {
		log   string
		n     int
		head  api.Hash
		e     api.Errno
		place int
	}{
		{"", 0, api.Hash{}, api.OK, 0},
		{"", 1, api.Hash{}, api.ErrChain, 0},
		{oneLog(entry), 1, bailey.Digest(entry), api.OK, 1},
		{oneLog(entry), 1, api.Hash{}, api.ErrChain, 1},
		{oneLog(entry), 2, bailey.Digest(entry), api.ErrChain, 1},
		{oneLog(entry) + "x", 1, bailey.Digest(entry), api.ErrForm, 1},
		{oneLog(entry) + oneLog(entry), 2, bailey.Digest(entry), api.ErrChain, 1},
		{oneLog(entry[1:]), 1, bailey.Digest(entry[1:]), api.ErrForm, 0},
	} {
		if e, place := bailey.Verify(c.log, c.n, c.head); e != c.e || place != c.place {
			t.Errorf("P4: Verify(%d bytes, %d) answers %d, %d, want %d, %d", len(c.log), c.n, e, place, c.e, c.place)
		}
	}
}

func TestClash(t *testing.T) {
	a, b := oneLog(oneEntry("t")), oneLog(oneEntry("u"))
	for _, c := range [][2]string{{"", ""}, {a, a}, {a, b}, {a, ""}, {"x", "y"}, {a + "x", a}} {
		if x, y, e := bailey.Clash(c[0], c[1]); x != "" || y != "" || e != api.ErrArg {
			t.Errorf("P5: Clash of %d and %d bytes answers %q, %q, %d, want ErrArg", len(c[0]), len(c[1]), x, y, e)
		}
	}
}

// No call panics, and none writes into what it is given or into the room behind it.
func TestWhateverIsGiven(t *testing.T) {
	numbers := []int{math.MinInt, math.MinInt + 1, -1, 0, 1, 2, 3, 4, 5, 63, 64, 1 << 32, 1 << 62, math.MaxInt}
	texts := []string{"", "\x00", "x", strings.Repeat("\xff", 200), oneLog(oneEntry("t")), strings.Repeat("\x00", 70000)}
	room := []string{"a", "b", "c", "d", "e"}
	proof := slices.Repeat([]api.Hash{{9}}, 70)
	for _, n := range numbers {
		for size := range room {
			bailey.Root(room[:size])
			bailey.Proof(room[:size], n)
		}
		for _, i := range numbers {
			for _, size := range []int{0, 1, 2, 3, 61, 62, 63, 64, 69} {
				bailey.Proves("x", i, n, proof[:size], api.Hash{})
			}
		}
		for _, s := range texts {
			bailey.Verify(s, n, api.Hash{})
		}
	}
	for _, s := range texts {
		for _, other := range texts {
			bailey.Tag(s, other)
			bailey.Clash(s, other)
		}
	}
	if strings.Join(room, "") != "abcde" || !slices.Equal(proof, slices.Repeat([]api.Hash{{9}}, 70)) {
		t.Errorf("P2: what was handed in was written into")
	}
}
