// Package tree: roots of lists, and proofs that a string stands in one: see DOC.md, 'The root'.
package tree

import (
	"math/bits"

	"bailey/api"
	"bailey/digest"
)

// What a digest is begun with, so that no string can pass for two roots.
const (
	leafMark = "\x00"
	nodeMark = "\x01"
)

// Root tells the root of a list.
func Root(l []string) api.Hash {
	if len(l) == 0 {
		return digest.Of("")
	}
	if len(l) == 1 {
		return leaf(l[0])
	}
	k := split(len(l))
	return node(Root(l[:k]), Root(l[k:]))
}

// Proof tells the proof of the i-th of a list; ErrArg: there is no such place.
func Proof(l []string, i int) ([]api.Hash, api.Errno) {
	if i < 0 || i >= len(l) {
		return nil, api.ErrArg
	}
	return proofOf(l, i), api.OK
}

// Proves tells whether a proof shows that s is the i-th of the n strings of a root.
func Proves(s string, i int, n int, proof []api.Hash, root api.Hash) bool {
	if i < 0 || i >= n || len(proof) != depth(i, n) {
		return false
	}
	return climb(s, i, n, proof) == root
}

// proofOf tells the proof of a place that there is.
func proofOf(l []string, i int) []api.Hash {
	if len(l) == 1 {
		return nil
	}
	k := split(len(l))
	if i < k {
		return append(proofOf(l[:k], i), Root(l[k:]))
	}
	return append(proofOf(l[k:], i-k), Root(l[:k]))
}

// depth tells how many digests the proof of the i-th of n has.
func depth(i int, n int) int {
	count := 0
	for n > 1 {
		k := split(n)
		if i < k {
			n = k
		} else {
			i, n = i-k, n-k
		}
		count++
	}
	return count
}

// climb works out the root of n strings of the i-th and a proof that has as many digests as it should.
func climb(s string, i int, n int, proof []api.Hash) api.Hash {
	if n == 1 {
		return leaf(s)
	}
	last := len(proof) - 1
	k := split(n)
	if i < k {
		return node(climb(s, i, k, proof[:last]), proof[last])
	}
	return node(proof[last], climb(s, i-k, n-k, proof[:last]))
}

// leaf tells the root of one string.
func leaf(s string) api.Hash { return digest.Of(leafMark + s) }

// node tells the root above two.
func node(left api.Hash, right api.Hash) api.Hash {
	return digest.Of(nodeMark + string(left[:]) + string(right[:]))
}

// split tells the greatest power of 2 below n, which is 2 or more.
func split(n int) int { return 1 << (bits.Len(uint(n-1)) - 1) }
