// Package chain: logs of entries, each bound to the one ahead of it: see DOC.md, 'An entry'.
package chain

import (
	"strings"

	"bailey/api"
	"bailey/digest"
	"bailey/names"
	"bailey/scan"
)

// How many bytes the numbers of a frame and of an entry have.
const (
	sizeBytes  = 2
	placeBytes = 4
)

// link is what binds an entry to the one ahead of it.
type link struct {
	ahead api.Hash
	place uint64
}

// hashing tells a digest. It is handed on, since no two texts with one true digest are known: only with a weak one
// can there be logs that clash.
type hashing func(s string) api.Hash

// Verify checks a log against how many entries it should have and the digest of the last one.
func Verify(log string, n int, head api.Hash) (api.Errno, int) {
	entries, last, e := walk(log, digest.Of)
	if e == api.OK && (len(entries) != n || last != head) {
		e = api.ErrChain
	}
	return e, len(entries)
}

// Clash tells two texts with one digest, of two logs that have the same number of entries and the same head;
// ErrArg: they are no such logs, or the same one.
func Clash(a string, b string) (string, string, api.Errno) { return clash(a, b, digest.Of) }

func clash(a string, b string, hash hashing) (string, string, api.Errno) {
	x, lastX, errX := walk(a, hash)
	y, lastY, errY := walk(b, hash)
	if errX != api.OK || errY != api.OK || len(x) != len(y) || lastX != lastY {
		return "", "", api.ErrArg
	}
	// The last entries have one digest; where two entries are the same, so are the digests that they have of those
	// ahead of them. So the last two that differ have one digest, while those ahead of these may have none.
	for i := len(x) - 1; i >= 0; i-- {
		if x[i] != y[i] {
			return strings.Clone(x[i]), strings.Clone(y[i]), api.OK
		}
	}
	// An entry has but one frame: with the same entries, a is b.
	return "", "", api.ErrArg
}

// walk tells the entries of a log ahead of the first frame that is wrong, the digest of the last of them, and what is
// wrong with that frame (OK: there is none).
func walk(log string, hash hashing) ([]string, api.Hash, api.Errno) {
	var entries []string
	var last api.Hash
	for log != "" {
		entry, bound, ok := readFrame(log)
		if !ok {
			return entries, last, api.ErrForm
		}
		if bound.ahead != last || bound.place != uint64(len(entries)) {
			return entries, last, api.ErrChain
		}
		entries = append(entries, entry)
		last = hash(entry)
		log = log[sizeBytes+len(entry):]
	}
	return entries, last, api.OK
}

// readFrame reads the frame that a log begins with: its entry, and what binds this; false: there is none.
func readFrame(log string) (entry string, bound link, ok bool) {
	defer func() {
		if recover() != nil {
			entry, bound, ok = "", link{}, false
		}
	}()
	r := scan.New(log)
	entry = r.Bytes(int(r.Number(sizeBytes)))
	return entry, readEntry(entry), true
}

// readEntry reads an entry, and gives up if it is none.
func readEntry(entry string) link {
	r := scan.New(entry)
	ahead := r.Hash()
	place := r.Number(placeBytes)
	op := r.Byte()
	r.Hash() // the token's tag
	scan.Want(pathFits(op, r.Text()))
	r.Hash() // the tag of the rest of the request
	scan.Want(r.Byte() <= byte(api.ErrExists))
	r.Hash() // the tag of the answer
	r.End()
	return link{ahead: ahead, place: place}
}

// pathFits tells whether there is such an op, and an entry of it may have this path or prefix.
func pathFits(op byte, path string) bool {
	switch op {
	case 'P', 'G', 'D':
		return names.IsPath(path)
	case 'L':
		return names.IsPrefix(path)
	case 'T', 'R', 0:
		return path == ""
	}
	return false
}
