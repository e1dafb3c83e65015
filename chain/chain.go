// Package chain: logs of entries, each bound to the one ahead of it: see DOC.md, 'An entry'.
package chain

import (
	"strings"

	"bailey/api"
	"bailey/digest"
	"bailey/names"
	"bailey/scan"
)

// How many bytes the numbers of a frame and of an entry have.
const (
	sizeBytes  = 2
	placeBytes = 4
)

// link is what binds an entry to the one ahead of it.
type link struct {
	ahead api.Hash
	place uint64
}

// sealed is an entry of a log, and its digest.
type sealed struct {
	bytes  string
	digest api.Hash
}

// hashing tells a digest. It is handed on, since no two texts with one true digest are known: only with a weak one
// can there be logs that clash.
type hashing func(s string) api.Hash

// Verify checks a log against how many entries it should have and the digest of the last one.
func Verify(log string, n int, head api.Hash) (api.Errno, int) {
	entries, e := walk(log, digest.Of)
	if e == api.OK && (len(entries) != n || headOf(entries) != head) {
		e = api.ErrChain
	}
	return e, len(entries)
}

// Digests tells the digests of the entries of a log, one behind the other, up to the first frame that is wrong.
func Digests(log string) []api.Hash {
	entries, _ := walk(log, digest.Of)
	var digests []api.Hash
	for _, e := range entries {
		digests = append(digests, e.digest)
	}
	return digests
}

// Clash tells two texts with one digest, of two logs that have the same number of entries and the same head;
// ErrArg: they are no such logs, or the same one.
func Clash(a string, b string) (string, string, api.Errno) { return clash(a, b, digest.Of) }

func clash(a string, b string, hash hashing) (string, string, api.Errno) {
	x, errX := walk(a, hash)
	y, errY := walk(b, hash)
	if errX != api.OK || errY != api.OK || len(x) != len(y) || headOf(x) != headOf(y) {
		return "", "", api.ErrArg
	}
	// The last entries have one digest; where two entries are the same, so are the digests that they have of those
	// ahead of them. So the last two that differ have one digest, while those ahead of these may have none.
	for i := len(x) - 1; i >= 0; i-- {
		if x[i].bytes != y[i].bytes {
			return strings.Clone(x[i].bytes), strings.Clone(y[i].bytes), api.OK
		}
	}
	// An entry has but one frame: with the same entries, a is b.
	return "", "", api.ErrArg
}

// walk tells the entries of a log ahead of the first frame that is wrong, and what is wrong with that (OK: there is
// none).
func walk(log string, hash hashing) ([]sealed, api.Errno) {
	var entries []sealed
	for log != "" {
		entry, bound, ok := readFrame(log)
		if !ok {
			return entries, api.ErrForm
		}
		if bound.ahead != headOf(entries) || bound.place != uint64(len(entries)) {
			return entries, api.ErrChain
		}
		entries = append(entries, sealed{entry, hash(entry)})
		log = log[sizeBytes+len(entry):]
	}
	return entries, api.OK
}

// headOf tells the digest of the last entry (of none: bytes 0).
func headOf(entries []sealed) api.Hash {
	if len(entries) == 0 {
		return api.Hash{}
	}
	return entries[len(entries)-1].digest
}

// readFrame reads the frame that a log begins with: its entry, and what binds this; false: there is none.
func readFrame(log string) (entry string, bound link, ok bool) {
	defer func() {
		if recover() != nil {
			entry, bound, ok = "", link{}, false
		}
	}()
	r := scan.New(log)
	entry = r.Bytes(int(r.Number(sizeBytes)))
	return entry, readEntry(entry), true
}

// readEntry reads an entry, and gives up if it is none.
func readEntry(entry string) link {
	r := scan.New(entry)
	ahead := r.Hash()
	place := r.Number(placeBytes)
	op := r.Byte()
	r.Hash() // the token's tag
	scan.Want(pathFits(op, r.Text()))
	r.Hash() // the tag of the rest of the request
	scan.Want(r.Byte() <= byte(api.ErrExists))
	r.Hash() // the tag of the answer
	r.End()
	return link{ahead: ahead, place: place}
}

// pathFits tells whether there is such an op, and an entry of it may have this path or prefix.
func pathFits(op byte, path string) bool {
	switch op {
	case 'P', 'G', 'D':
		return names.IsPath(path)
	case 'L':
		return names.IsPrefix(path)
	case 'T', 'R', 0:
		return path == ""
	}
	return false
}
