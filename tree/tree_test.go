package tree

import (
	"crypto/sha256"
	"math"
	"slices"
	"strconv"
	"testing"

	"bailey/api"
)

// some makes n strings that differ; the first one is empty.
func some(n int) []string {
	l := make([]string, n)
	for i := 1; i < n; i++ {
		l[i] = "s" + strconv.Itoa(i)
	}
	return l
}

func hashOf(pieces ...string) api.Hash {
	var all []byte
	for _, p := range pieces {
		all = append(all, p...)
	}
	return sha256.Sum256(all)
}

func above(a api.Hash, b api.Hash) api.Hash { return hashOf("\x01", string(a[:]), string(b[:])) }

// wantedSplit tells the greatest power of 2 below n, by going through them.
func wantedSplit(n int) int {
	k := 1
	for 2*k < n {
		k *= 2
	}
	return k
}

func wantedRoot(l []string) api.Hash {
	switch len(l) {
	case 0:
		return hashOf()
	case 1:
		return hashOf("\x00", l[0])
	}
	k := wantedSplit(len(l))
	return above(wantedRoot(l[:k]), wantedRoot(l[k:]))
}

func wantedProof(l []string, i int) []api.Hash {
	if len(l) == 1 {
		return nil
	}
	k := wantedSplit(len(l))
	if i < k {
		return append(wantedProof(l[:k], i), wantedRoot(l[k:]))
	}
	return append(wantedProof(l[k:], i-k), wantedRoot(l[:k]))
}

func TestRoot(t *testing.T) {
	if Root(nil) != hashOf() || Root([]string{}) != hashOf() {
		t.Errorf("P3: the root of none is not the digest of no bytes")
	}
	if Root([]string{"x"}) != hashOf("\x00x") {
		t.Errorf("P3: the root of one is not the digest of a byte 0 and it")
	}
	for n := range 70 {
		if got, want := Root(some(n)), wantedRoot(some(n)); got != want {
			t.Errorf("P3: the root of %d is %x, want %x", n, got, want)
		}
	}
}

// Two roots joined are not the same as a string of their bytes.
func TestRootOfLeafLikeNode(t *testing.T) {
	a, b := Root([]string{"a"}), Root([]string{"b"})
	if Root([]string{"a", "b"}) == Root([]string{string(a[:]) + string(b[:])}) {
		t.Errorf("P3: a string passes for two")
	}
}

func TestProof(t *testing.T) {
	for n := 1; n < 70; n++ {
		l := some(n)
		for i := range n {
			got, e := Proof(l, i)
			if want := wantedProof(l, i); e != api.OK || !slices.Equal(got, want) {
				t.Fatalf("P3: the proof of place %d of %d is %x, %d, want %x", i, n, got, e, want)
			}
		}
	}
}

func TestProofOfNoPlace(t *testing.T) {
	for _, n := range []int{0, 1, 2, 7} {
		for _, i := range []int{math.MinInt, -1, n, n + 1, math.MaxInt} {
			if p, e := Proof(some(n), i); p != nil || e != api.ErrArg {
				t.Errorf("P3: the proof of place %d of %d is %x, %d, want nil, ErrArg", i, n, p, e)
			}
		}
	}
}

func TestProofIsFresh(t *testing.T) {
	l := some(9)
	first, _ := Proof(l, 3)
	want := slices.Clone(first)
	second, _ := Proof(l, 3)
	for i := range second {
		second[i] = api.Hash{}
	}
	_ = append(second, api.Hash{1})
	third, _ := Proof(l, 3)
	if !slices.Equal(first, want) || !slices.Equal(third, want) {
		t.Errorf("P2: writing into a proof changed another one")
	}
}

func TestArgumentsAreLeftAlone(t *testing.T) {
	room := some(12)
	Root(room[:5])
	Proof(room[:5], 4)
	if !slices.Equal(room, some(12)) {
		t.Errorf("P2: a list that was handed in was written into: %q", room)
	}
	p := slices.Repeat([]api.Hash{{7}}, 9)
	Proves("x", 4, 5, p[:1], api.Hash{})
	Proves("x", 0, 5, p[:3], api.Hash{})
	if !slices.Equal(p, slices.Repeat([]api.Hash{{7}}, 9)) {
		t.Errorf("P2: a proof that was handed in was written into: %x", p)
	}
}

func TestProves(t *testing.T) {
	for n := 1; n < 40; n++ {
		l := some(n)
		root := wantedRoot(l)
		for i := range n {
			p := wantedProof(l, i)
			if !Proves(l[i], i, n, p, root) {
				t.Fatalf("P3: the proof of place %d of %d proves nothing", i, n)
			}
			for j, s := range l {
				if j != i && Proves(s, i, n, p, root) {
					t.Fatalf("P3: the proof of place %d of %d proves string %d there", i, n, j)
				}
			}
			for j := -2; j < n+2; j++ {
				if j != i && Proves(l[i], j, n, p, root) {
					t.Fatalf("P3: the proof of place %d of %d proves place %d", i, n, j)
				}
			}
			if Proves(l[i], i, n, p, hashOf("other")) {
				t.Fatalf("P3: the proof of place %d of %d proves another root", i, n)
			}
		}
	}
}

func TestProvesWithAnotherLength(t *testing.T) {
	for n := 1; n < 20; n++ {
		l := some(n)
		for i := range n {
			p := wantedProof(l, i)
			if Proves(l[i], i, n, append(slices.Clone(p), api.Hash{}), wantedRoot(l)) {
				t.Errorf("P3: a digest too many proves place %d of %d", i, n)
			}
			if len(p) > 0 && (Proves(l[i], i, n, p[1:], wantedRoot(l)) || Proves(l[i], i, n, p[:len(p)-1], wantedRoot(l))) {
				t.Errorf("P3: a digest too few proves place %d of %d", i, n)
			}
		}
	}
}

// A root of fewer strings, of which the proof has just the digests that lead there, is no root of n.
func TestProvesStopsAtNothingBelow(t *testing.T) {
	l := some(4)
	p := wantedProof(l[:2], 0)
	if !Proves(l[0], 0, 2, p, wantedRoot(l[:2])) || Proves(l[0], 0, 4, p, wantedRoot(l[:2])) {
		t.Errorf("P3: a proof among the first two proves a place of four")
	}
}

func TestProvesOfNoNumber(t *testing.T) {
	for _, n := range []int{math.MinInt, -1, 0} {
		for _, i := range []int{math.MinInt, n - 1, n, -1, 0, 1, math.MaxInt} {
			for size := range 3 {
				if Proves("x", i, n, make([]api.Hash, size), Root([]string{"x"})) {
					t.Errorf("P3: a proof of place %d of %d", i, n)
				}
			}
		}
	}
}

// The greatest numbers have proofs too: 63 digests for the first place; of 2^62 + 1 strings one for the last.
func TestProvesOfManyStrings(t *testing.T) {
	p := make([]api.Hash, 63)
	root := hashOf("\x00x")
	for i := range p {
		p[i][0] = byte(i)
		root = above(root, p[i])
	}
	if !Proves("x", 0, math.MaxInt, p, root) || Proves("x", 0, math.MaxInt, p[:62], root) {
		t.Errorf("P3: the first of 2^63 - 1")
	}
	root = hashOf("\x00x")
	for i := range 62 {
		root = above(p[i], root)
	}
	if !Proves("x", math.MaxInt-1, math.MaxInt, p[:62], root) || Proves("x", math.MaxInt, math.MaxInt, p[:62], root) {
		t.Errorf("P3: the last of 2^63 - 1")
	}
	root = above(p[5], hashOf("\x00x"))
	if !Proves("x", 1<<62, 1<<62+1, p[5:6], root) || Proves("x", 1<<62, 1<<62+1, p[4:6], root) {
		t.Errorf("P3: the last of 2^62 + 1")
	}
}
