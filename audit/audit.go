// Package audit: the audit log of a vault, which lies in its sinks: see DOC.md, P9 and P10.
package audit

import (
	"slices"

	"bailey/api"
	"bailey/chain"
	"bailey/digest"
	"bailey/sink"
)

// Log is an audit log. Its frames are in the sinks alone: each has some first ones, and there is always one that has
// them all, since what none has is no entry.
type Log struct {
	sinks []*sink.Sink
	count int
	last  api.Hash
}

// Next is an entry that is bound to the last one of a log: laid there, it is the next one.
type Next struct {
	bytes  string
	Digest api.Hash
}

// Open tells the log that sinks have, and the digests of its entries, one behind the other.
func Open(l []*sink.Sink) (*Log, []api.Hash) {
	log := &Log{sinks: slices.Clone(l)}
	digests := chain.Digests(log.frames())
	log.count = len(digests)
	if log.count > 0 {
		log.last = digests[log.count-1]
	}
	return log, digests
}

// Head tells how many entries there are, and the digest of the last one (of none: bytes 0).
func (l *Log) Head() (int, api.Hash) { return l.count, l.last }

// Bind binds an entry to the last one. Nothing is laid yet.
func (l *Log) Bind(e chain.Entry) Next {
	bytes := e.Bytes(l.last, l.count)
	return Next{bytes, digest.Of(bytes)}
}

// Lay lays the next entry into the sinks; false: none of them has it then, and there is no such entry.
func (l *Log) Lay(next Next) bool {
	log := l.frames() + chain.Frame(next.bytes)
	laid := false
	for _, s := range l.sinks {
		if give(s, log) {
			laid = true
		}
	}
	if laid {
		l.count++
		l.last = next.Digest
	}
	return laid
}

// frames tells all frames.
func (l *Log) frames() string {
	most := ""
	for _, s := range l.sinks {
		if log := s.Read(); len(log) > len(most) {
			most = log
		}
	}
	return most
}

// give gives a sink the frames of a log that it has not, till an Append fails; true: it has them all.
func give(s *sink.Sink, log string) bool {
	for missing := log[len(s.Read()):]; missing != ""; {
		frame := chain.FirstFrame(missing)
		if !s.Append(frame) {
			return false
		}
		missing = missing[len(frame):]
	}
	return true
}
