// Package journal: the requests that change something, on the disk: see DOC.md, P10 and P11. The audit log can't tell
// them, since it has tags alone. A request is written here ahead of its entry's being laid, so that there is never an
// entry of what can't be done again; whether it was done, the audit log tells.
package journal

import (
	"bailey/api"
	"bailey/disk"
	"bailey/pack"
	"bailey/scan"
)

// The names of files: of the journal, and of one that is to take its place.
const (
	current = "journal"
	mended  = "mended"
)

// Journal is the journal on a disk.
type Journal struct{ disk *disk.Disk }

// record is a request, and the digest that its entry has. Since this binds all entries ahead, no other request that
// came to the same place of the log can be taken for it.
type record struct {
	entry   api.Hash
	request string
}

// Open tells the journal on a disk, to be written on; false: the disk is stopped.
func Open(d *disk.Disk) (*Journal, bool) {
	j := &Journal{disk: d}
	if d.Stopped() || !j.mend() {
		return nil, false
	}
	return j, true
}

// mend takes away what a crash left of a last record: behind that no other one could be read. The journal is safe
// under its own name till what takes its place is safe as well.
func (j *Journal) mend() bool {
	data := j.disk.Read(current)
	_, torn := read(data)
	if torn == "" {
		return true
	}
	whole := data[:len(data)-len(torn)]
	return j.disk.Remove(mended) && j.disk.Append(mended, whole) && j.disk.Sync(mended) && j.disk.Rename(mended, current)
}

// Write makes a request safe whose entry is to have this digest; false: the disk is stopped. What is a request is short
// enough for a text.
func (j *Journal) Write(entry api.Hash, request string) bool {
	return j.disk.Append(current, string(entry[:])+pack.Text(request)) && j.disk.Sync(current)
}

// Requests tells the requests that were written and have entries in a log of these digests, in the log's order.
func (j *Journal) Requests(log []api.Hash) []string {
	records, _ := read(j.disk.Read(current))
	// A request that was not done and came again to the same place of the log is written twice, but was done once.
	written := map[api.Hash]record{}
	for _, r := range records {
		written[r.entry] = r
	}
	var requests []string
	for _, entry := range log {
		if r, known := written[entry]; known {
			requests = append(requests, r.request)
		}
	}
	return requests
}

// read tells the records that are there whole, and the bytes behind them.
func read(data string) ([]record, string) {
	var records []record
	for {
		r, left, ok := readRecord(data)
		if !ok {
			return records, data
		}
		records = append(records, r)
		data = left
	}
}

// readRecord reads the record that some bytes begin with, and tells those behind it; false: there is none.
func readRecord(data string) (r record, left string, ok bool) {
	defer func() {
		if recover() != nil {
			r, left, ok = record{}, "", false
		}
	}()
	b := scan.New(data)
	r.entry = b.Hash()
	r.request = b.Text()
	return r, b.Left(), true
}
