// Package audit: the audit log of a vault, which lies in its sinks: see DOC.md, P9.
package audit

import (
	"slices"

	"bailey/api"
	"bailey/chain"
	"bailey/digest"
	"bailey/sink"
)

// Log is an audit log. Its frames are in the sinks alone: each has some first ones, and there is always one that has
// them all, since what none has is no entry.
type Log struct {
	sinks []*sink.Sink
	count int
	last  api.Hash
}

// New makes a log without entries, of sinks without bytes.
func New(l []*sink.Sink) *Log { return &Log{sinks: slices.Clone(l)} }

// Head tells how many entries there are, and the digest of the last one (of none: bytes 0).
func (l *Log) Head() (int, api.Hash) { return l.count, l.last }

// Lay lays an entry into the sinks; false: none of them has it then, and there is no such entry.
func (l *Log) Lay(e chain.Entry) bool {
	entry := e.Bytes(l.last, l.count)
	log := l.frames() + chain.Frame(entry)
	laid := false
	for _, s := range l.sinks {
		if give(s, log) {
			laid = true
		}
	}
	if laid {
		l.count++
		l.last = digest.Of(entry)
	}
	return laid
}

// frames tells all frames.
func (l *Log) frames() string {
	most := ""
	for _, s := range l.sinks {
		if log := s.Read(); len(log) > len(most) {
			most = log
		}
	}
	return most
}

// give gives a sink the frames of a log that it has not, till an Append fails; true: it has them all.
func give(s *sink.Sink, log string) bool {
	for missing := log[len(s.Read()):]; missing != ""; {
		frame := chain.FirstFrame(missing)
		if !s.Append(frame) {
			return false
		}
		missing = missing[len(frame):]
	}
	return true
}
