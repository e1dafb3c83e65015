package chain

import (
	"bailey/api"
	"bailey/pack"
)

// Entry is what an entry tells of a request and its answer.
type Entry struct {
	Op    byte      // 0: the request is not right
	Who   api.Hash  // the tag of the token, or of the whole request, if that is not right
	Path  string    // the path or prefix, where there is one
	Rest  api.Hash  // the tag of the request's bytes behind these
	Error api.Errno // the answer's
	More  api.Hash  // the tag of the answer's bytes behind the error
}

// Bytes writes an entry, bound to the one ahead of it by the digest of that, and how many are ahead.
func (e Entry) Bytes(ahead api.Hash, place int) string {
	return string(ahead[:]) + pack.Number(uint64(place), placeBytes) +
		pack.Byte(e.Op) + string(e.Who[:]) + pack.Text(e.Path) + string(e.Rest[:]) +
		pack.Byte(byte(e.Error)) + string(e.More[:])
}

// Frame writes an entry's bytes as they stand in a log.
func Frame(entry string) string { return pack.Number(uint64(len(entry)), sizeBytes) + entry }

// FirstFrame tells the frame that a log begins with; all of it, if there is none.
func FirstFrame(log string) string {
	entry, _, ok := readFrame(log)
	if !ok {
		return log
	}
	return log[:sizeBytes+len(entry)]
}
