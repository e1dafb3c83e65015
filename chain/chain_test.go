package chain

import (
	"crypto/sha256"
	"math"
	"slices"
	"strings"
	"testing"

	"bailey/api"
)

// entry is what an entry is made of, for tests to write.
type entry struct {
	ahead api.Hash
	place uint32
	op    byte
	path  string
	code  byte
	tag   byte // which the three tags are made of
}

func (e entry) bytes() string {
	b := append([]byte{}, e.ahead[:]...)
	b = append(b, byte(e.place), byte(e.place>>8), byte(e.place>>16), byte(e.place>>24), e.op)
	tag := strings.Repeat(string(rune(e.tag&127)), 32)
	b = append(b, tag...)
	b = append(b, byte(len(e.path)))
	b = append(b, e.path...)
	b = append(b, tag...)
	b = append(b, e.code)
	return string(append(b, tag...))
}

func frame(s string) string { return string([]byte{byte(len(s)), byte(len(s) >> 8)}) + s }

func hashOf(s string) api.Hash { return sha256.Sum256([]byte(s)) }

// chained writes a log of entries, each bound to the one ahead of it, and tells the digest of the last one.
func chained(hash hashing, l ...entry) (string, api.Hash) {
	var log strings.Builder
	var last api.Hash
	for i, e := range l {
		e.ahead, e.place = last, uint32(i)
		log.WriteString(frame(e.bytes()))
		last = hash(e.bytes())
	}
	return log.String(), last
}

func sample() []entry {
	return []entry{
		{op: 'P', path: "a/b", code: 0},
		{op: 'G', path: "0123456789abcdef", code: 4},
		{op: 'D', path: "/", code: 3},
		{op: 'L', path: "", code: 0},
		{op: 'L', path: "a/", code: 2},
		{op: 'T', code: 7},
		{op: 'R', code: 5},
		{op: 0, code: 1},
		{op: 'G', path: "z9", code: 6},
	}
}

func expect(t *testing.T, what string, log string, n int, head api.Hash, e api.Errno, place int) {
	t.Helper()
	if gotE, got := Verify(log, n, head); gotE != e || got != place {
		t.Errorf("P4: %s: Verify answers %d, %d, want %d, %d", what, gotE, got, e, place)
	}
}

func TestVerifyTakesALog(t *testing.T) {
	l := sample()
	for n := range len(l) + 1 {
		log, head := chained(hashOf, l[:n]...)
		expect(t, "a log", log, n, head, api.OK, n)
	}
}

// More than 256 and more than 65536 entries: the number has several bytes.
func TestVerifyTakesALongLog(t *testing.T) {
	const n = 1<<16 + 2
	l := make([]entry, n)
	for i := range l {
		l[i].op = 'T'
	}
	log, head := chained(hashOf, l...)
	expect(t, "a long log", log, n, head, api.OK, n)
}

func TestVerifyHoldsTheHead(t *testing.T) {
	expect(t, "none, but one is asked for", "", 1, api.Hash{}, api.ErrChain, 0)
	expect(t, "none, with a head", "", 0, hashOf(""), api.ErrChain, 0)
	expect(t, "none, fewer asked for", "", -1, api.Hash{}, api.ErrChain, 0)
	l := sample()
	log, head := chained(hashOf, l...)
	_, earlier := chained(hashOf, l[:8]...)
	for _, n := range []int{math.MinInt, -1, 0, 8, 10, math.MaxInt} {
		expect(t, "another number", log, n, head, api.ErrChain, 9)
	}
	expect(t, "no head", log, 9, api.Hash{}, api.ErrChain, 9)
	expect(t, "the head of the one ahead", log, 9, earlier, api.ErrChain, 9)
	for i := range head {
		other := head
		other[i] ^= 128
		expect(t, "another head", log, 9, other, api.ErrChain, 9)
	}
}

func TestVerifyOfALogCutShort(t *testing.T) {
	l := sample()
	log, head := chained(hashOf, l...)
	ends := map[int]int{0: 0}
	for n := range len(l) {
		part, _ := chained(hashOf, l[:n+1]...)
		ends[len(part)] = n + 1
	}
	whole := 0
	for cut := range len(log) {
		if n, ok := ends[cut]; ok {
			whole = n
			expect(t, "some first frames", log[:cut], len(l), head, api.ErrChain, whole)
			continue
		}
		expect(t, "a frame cut short", log[:cut], len(l), head, api.ErrForm, whole)
	}
}

func TestVerifyOfEntriesThatAreNone(t *testing.T) {
	log, head := chained(hashOf, sample()...)
	for _, e := range []entry{
		{op: 'P'}, {op: 'G'}, {op: 'D'},
		{op: 'P', path: "A"}, {op: 'G', path: "a b"}, {op: 'D', path: "a\x00"}, {op: 'L', path: "-"},
		{op: 'P', path: "0123456789abcdefg"}, {op: 'L', path: "0123456789abcdefg"}, {op: 'L', path: strings.Repeat("a", 255)},
		{op: 'T', path: "a"}, {op: 'R', path: "a"}, {op: 0, path: "a"},
		{op: 'P', path: "a", code: 8}, {op: 'T', code: 9}, {op: 0, code: 255},
	} {
		e.ahead, e.place = head, 9
		expect(t, "no entry", log+frame(e.bytes()), 10, hashOf(e.bytes()), api.ErrForm, 9)
		e.ahead, e.place = api.Hash{}, 3
		expect(t, "no entry, and no link", log+frame(e.bytes()), 10, hashOf(e.bytes()), api.ErrForm, 9)
	}
}

func TestVerifyOfAllOps(t *testing.T) {
	for op := range 256 {
		for _, path := range []string{"", "a"} {
			e := entry{op: byte(op), path: path}
			want, place := api.ErrForm, 0
			if path == "a" && strings.Contains("PGDL", string(rune(op))) || path == "" && strings.Contains("LTR\x00", string(rune(op))) {
				want, place = api.OK, 1
			}
			expect(t, "op "+string(rune(op)), frame(e.bytes()), 1, hashOf(e.bytes()), want, place)
		}
	}
}

func TestVerifyOfAllErrors(t *testing.T) {
	for code := range 256 {
		e := entry{op: 'R', code: byte(code)}
		want, place := api.ErrForm, 0
		if code <= 7 {
			want, place = api.OK, 1
		}
		expect(t, "an error", frame(e.bytes()), 1, hashOf(e.bytes()), want, place)
	}
}

// A frame's length must be just that of its entry.
func TestVerifyOfFramesWithOtherLengths(t *testing.T) {
	log, head := chained(hashOf, sample()...)
	right := entry{ahead: head, place: 9, op: 'P', path: "a"}.bytes()
	for _, size := range []int{0, 1, len(right) - 1, len(right) + 1, len(right) + 256, 65535} {
		bad := string([]byte{byte(size), byte(size >> 8)}) + right
		expect(t, "another length", log+bad, 10, hashOf(right), api.ErrForm, 9)
		expect(t, "another length, with more behind", log+bad+strings.Repeat("x", 70000), 10, hashOf(right), api.ErrForm, 9)
	}
	for k := range right {
		expect(t, "an entry that ends too early", log+frame(right[:k]), 10, hashOf(right[:k]), api.ErrForm, 9)
	}
	for _, more := range []string{"x", "\x00", right, strings.Repeat("y", 60000)} {
		expect(t, "an entry with bytes left over", log+frame(right+more), 10, hashOf(right+more), api.ErrForm, 9)
		expect(t, "a log with bytes left over", log+frame(right)+more, 10, hashOf(right), api.ErrForm, 10)
	}
}

func TestVerifyOfLinksThatAreWrong(t *testing.T) {
	log, head := chained(hashOf, sample()...)
	other := head
	other[31] ^= 1
	for _, e := range []entry{
		{ahead: head, place: 8}, {ahead: head, place: 10}, {ahead: head, place: 0},
		{ahead: head, place: 9 + 1<<8}, {ahead: head, place: 9 + 1<<16}, {ahead: head, place: 9 + 1<<24}, {ahead: head, place: 9 << 24},
		{ahead: other, place: 9}, {place: 9}, {ahead: hashOf(log), place: 9},
	} {
		e.op = 'R'
		for _, behind := range []string{"", "x", frame("x"), log} {
			expect(t, "a wrong link", log+frame(e.bytes())+behind, 10, hashOf(e.bytes()), api.ErrChain, 9)
		}
	}
	first := entry{ahead: api.Hash{31: 1}, op: 'R'}
	expect(t, "a first one with a digest ahead", frame(first.bytes()), 1, hashOf(first.bytes()), api.ErrChain, 0)
	expect(t, "a log twice", log+log, 18, head, api.ErrChain, 9)
}

// What is changed in an entry, the next one tells; in the last one, the head.
func TestVerifyOfTagsThatAreChanged(t *testing.T) {
	l := sample()
	log, head := chained(hashOf, l...)
	at := 0
	for i, e := range l {
		size := len(e.bytes())
		for _, k := range []int{2 + 37, 2 + 68, fromEnd(size, 65), fromEnd(size, 34), fromEnd(size, 32), fromEnd(size, 1)} {
			b := []byte(log)
			b[at+k] ^= 1
			expect(t, "a changed tag", string(b), len(l), head, api.ErrChain, i+1)
		}
		at += 2 + size
	}
}

// fromEnd tells the place in a frame that is so many bytes ahead of its end.
func fromEnd(size int, back int) int { return 2 + size - back }

func TestVerifyTakesNoLogWithOneByteChanged(t *testing.T) {
	log, head := chained(hashOf, sample()...)
	for i := range log {
		for _, mask := range []byte{1, 2, 64, 128, 255} {
			b := []byte(log)
			b[i] ^= mask
			if e, _ := Verify(string(b), 9, head); e == api.OK {
				t.Errorf("P4: byte %d is changed, and Verify takes it", i)
			}
		}
	}
}

// Whatever is handed in, Verify ends and tells a place among the frames.
func FuzzVerify(f *testing.F) {
	log, head := chained(hashOf, sample()...)
	f.Add(log, 9, head[:])
	f.Add(log[:200], 1, head[:])
	f.Add("\x00\x00", 0, head[:])
	f.Add("\xff\xff", -1, head[:])
	f.Fuzz(func(t *testing.T, log string, n int, head []byte) {
		var h api.Hash
		copy(h[:], head)
		e, place := Verify(log, n, h)
		if place < 0 || place*137 > len(log) {
			t.Errorf("P4: place %d in %d bytes", place, len(log))
		}
		if e != api.OK && e != api.ErrForm && e != api.ErrChain || e == api.OK && place != n {
			t.Errorf("P4: Verify answers %d, %d", e, place)
		}
	})
}

func TestDigests(t *testing.T) {
	l := sample()
	log, _ := chained(hashOf, l...)
	var want []api.Hash
	for n := range l {
		_, head := chained(hashOf, l[:n+1]...)
		want = append(want, head)
	}
	if got := Digests(log); !slices.Equal(got, want) {
		t.Errorf("P10: the digests of a log are %x, want %x", got, want)
	}
	for cut, n := range map[int]int{0: 0, 1: 0, len(log) - 1: len(l) - 1} {
		if got := Digests(log[:cut]); !slices.Equal(got, want[:n]) {
			t.Errorf("P10: there are %d digests ahead of a frame that is wrong, want %d", len(got), n)
		}
	}
}
