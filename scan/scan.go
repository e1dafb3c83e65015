// Package scan: a reader of bytes. It gives up by a panic where they are not what they should be; whoever calls it
// catches that by a deferred recover, and so needs no question behind each piece.
package scan

import "bailey/api"

// Reader has the bytes that are not read yet.
type Reader struct{ left string }

// New makes a reader of some bytes.
func New(s string) *Reader { return &Reader{left: s} }

// Want gives up, unless ok holds.
func Want(ok bool) {
	if !ok {
		panic("scan: the bytes are not what they should be")
	}
}

// Bytes reads n bytes.
func (r *Reader) Bytes(n int) string {
	Want(n <= len(r.left))
	s := r.left[:n]
	r.left = r.left[n:]
	return s
}

// Byte reads one byte.
func (r *Reader) Byte() byte { return r.Bytes(1)[0] }

// Number reads a number of n bytes (at most 8), the low one first.
func (r *Reader) Number(n int) uint64 {
	var x uint64
	for i := range n {
		x |= uint64(r.Byte()) << (8 * i)
	}
	return x
}

// Text reads a text: its length, and so many bytes.
func (r *Reader) Text() string { return r.Bytes(int(r.Byte())) }

// Hash reads a digest or a tag.
func (r *Reader) Hash() api.Hash {
	var h api.Hash
	copy(h[:], r.Bytes(len(h)))
	return h
}

// Left tells the bytes that are not read yet, and leaves them so.
func (r *Reader) Left() string { return r.left }

// End gives up, if there are bytes left over.
func (r *Reader) End() { Want(r.left == "") }
