// Package digest: digests and tags: see DOC.md, 'The digest' and 'The tag'.
package digest

import (
	"math/bits"

	"bailey/api"
)

// blockSize is how many bytes are worked in at once.
const blockSize = 64

// What the two turns of a tag turn the key's bytes by, so that neither can stand for the other.
const (
	innerMask = 54
	outerMask = 92
)

// rounds: K(0) to K(63).
var rounds = [64]uint32{
	0x428a2f98, 0x71374491, 0xb5c0fbcf, 0xe9b5dba5, 0x3956c25b, 0x59f111f1, 0x923f82a4, 0xab1c5ed5,
	0xd807aa98, 0x12835b01, 0x243185be, 0x550c7dc3, 0x72be5d74, 0x80deb1fe, 0x9bdc06a7, 0xc19bf174,
	0xe49b69c1, 0xefbe4786, 0x0fc19dc6, 0x240ca1cc, 0x2de92c6f, 0x4a7484aa, 0x5cb0a9dc, 0x76f988da,
	0x983e5152, 0xa831c66d, 0xb00327c8, 0xbf597fc7, 0xc6e00bf3, 0xd5a79147, 0x06ca6351, 0x14292967,
	0x27b70a85, 0x2e1b2138, 0x4d2c6dfc, 0x53380d13, 0x650a7354, 0x766a0abb, 0x81c2c92e, 0x92722c85,
	0xa2bfe8a1, 0xa81a664b, 0xc24b8b70, 0xc76c51a3, 0xd192e819, 0xd6990624, 0xf40e3585, 0x106aa070,
	0x19a4c116, 0x1e376c08, 0x2748774c, 0x34b0bcb5, 0x391c0cb3, 0x4ed8aa4a, 0x5b9cca4f, 0x682e6ff3,
	0x748f82ee, 0x78a5636f, 0x84c87814, 0x8cc70208, 0x90befffa, 0xa4506ceb, 0xbef9a3f7, 0xc67178f2,
}

// Of tells the digest of some bytes.
func Of(s string) api.Hash {
	h := [8]uint32{0x6a09e667, 0xbb67ae85, 0x3c6ef372, 0xa54ff53a, 0x510e527f, 0x9b05688c, 0x1f83d9ab, 0x5be0cd19}
	// Only the end is copied for the padding: what is handed in may be long.
	whole := len(s) - len(s)%blockSize
	h = workIn(h, s[:whole])
	h = workIn(h, s[whole:]+padding(len(s)))
	var out api.Hash
	for i, x := range h {
		out[4*i] = byte(x >> 24)
		out[4*i+1] = byte(x >> 16)
		out[4*i+2] = byte(x >> 8)
		out[4*i+3] = byte(x)
	}
	return out
}

// Tag tells the tag of some bytes under a key.
func Tag(key string, s string) api.Hash {
	if len(key) > blockSize {
		short := Of(key)
		key = string(short[:])
	}
	inner := Of(masked(key, innerMask) + s)
	return Of(masked(key, outerMask) + string(inner[:]))
}

// masked tells a key of at most a block, made up to a block, each byte xor mask.
func masked(key string, mask byte) string {
	var block [blockSize]byte
	copy(block[:], key)
	for i := range block {
		block[i] ^= mask
	}
	return string(block[:])
}

// padding tells what is added to so many bytes.
func padding(size int) string {
	const lengthSize = 8
	room := blockSize - size%blockSize
	if room < 1+lengthSize {
		room += blockSize
	}
	out := make([]byte, room)
	out[0] = 128
	count := uint64(size) * 8
	for i := range lengthSize {
		out[room-1-i] = byte(count >> (8 * i))
	}
	return string(out)
}

// workIn works whole blocks, one behind the other, into H.
func workIn(h [8]uint32, blocks string) [8]uint32 {
	for len(blocks) > 0 {
		h = workInOne(h, spread(blocks[:blockSize]))
		blocks = blocks[blockSize:]
	}
	return h
}

// spread tells W(0) to W(63) of a block.
func spread(block string) [64]uint32 {
	var w [64]uint32
	for t := range 16 {
		w[t] = uint32(block[4*t])<<24 | uint32(block[4*t+1])<<16 | uint32(block[4*t+2])<<8 | uint32(block[4*t+3])
	}
	for t := 16; t < 64; t++ {
		s0 := turn(w[t-15], 7) ^ turn(w[t-15], 18) ^ w[t-15]>>3
		s1 := turn(w[t-2], 17) ^ turn(w[t-2], 19) ^ w[t-2]>>10
		w[t] = s1 + w[t-7] + s0 + w[t-16]
	}
	return w
}

// workInOne works one block, as spread told it, into H.
func workInOne(before [8]uint32, w [64]uint32) [8]uint32 {
	a, b, c, d := before[0], before[1], before[2], before[3]
	e, f, g, h := before[4], before[5], before[6], before[7]
	for t := range 64 {
		t1 := h + (turn(e, 6) ^ turn(e, 11) ^ turn(e, 25)) + (e&f ^ ^e&g) + rounds[t] + w[t]
		t2 := (turn(a, 2) ^ turn(a, 13) ^ turn(a, 22)) + (a&b ^ a&c ^ b&c)
		h, g, f, e, d, c, b, a = g, f, e, d+t1, c, b, a, t1+t2
	}
	after := [8]uint32{a, b, c, d, e, f, g, h}
	for i := range after {
		after[i] += before[i]
	}
	return after
}

// turn turns the bits of x round by n places towards the low end.
func turn(x uint32, n int) uint32 { return bits.RotateLeft32(x, -n) }
