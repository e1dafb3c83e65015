package audit

import (
	"slices"
	"testing"

	"bailey/api"
	"bailey/chain"
	"bailey/digest"
	"bailey/sink"
)

// entries: so many that differ.
func entries(n int) []chain.Entry {
	var l []chain.Entry
	for i := range n {
		l = append(l, chain.Entry{Op: 'P', Path: "a", Error: api.Errno(i % 8), Who: digest.Of(string([]byte{byte(i)}))})
	}
	return l
}

func sinks(n int) []*sink.Sink {
	var l []*sink.Sink
	for range n {
		l = append(l, sink.New())
	}
	return l
}

func open(l []*sink.Sink) *Log {
	log, _ := Open(l)
	return log
}

// holds tells how many frames each sink has, and checks that these are some first ones of the log.
func holds(t *testing.T, log string, l []*sink.Sink) []int {
	t.Helper()
	var counts []int
	for i, s := range l {
		left, count := s.Read(), 0
		for rest := log; left != ""; count++ {
			f := chain.FirstFrame(rest)
			if len(left) < len(f) || left[:len(f)] != f {
				t.Fatalf("P9: the sink %d has what are no first frames of the log", i)
			}
			left, rest = left[len(f):], rest[len(f):]
		}
		counts = append(counts, count)
	}
	return counts
}

// lay lays the next of the entries.
func lay(t *testing.T, log *Log, l []*sink.Sink, want bool, has ...int) {
	t.Helper()
	n, last := log.Head()
	e := entries(n + 1)[n]
	bytes := e.Bytes(last, n)
	if got := log.Lay(log.Bind(e)); got != want {
		t.Fatalf("P9: Lay answers %v, want %v", got, want)
	}
	wantN, wantLast := n, last
	if want {
		wantN, wantLast = n+1, digest.Of(bytes)
	}
	if gotN, gotLast := log.Head(); gotN != wantN || gotLast != wantLast {
		t.Fatalf("P9: Head tells %d entries, want %d, or another digest", gotN, wantN)
	}
	if got := holds(t, wholeLog(wantN), l); !slices.Equal(got, has) {
		t.Fatalf("P9: the sinks have %v frames, want %v", got, has)
	}
}

// wholeLog: the log of the first n entries.
func wholeLog(n int) string {
	log, last := "", api.Hash{}
	for i, e := range entries(n) {
		bytes := e.Bytes(last, i)
		log += chain.Frame(bytes)
		last = digest.Of(bytes)
	}
	return log
}

func TestAllSinksTakeAll(t *testing.T) {
	for n := 1; n <= api.MaxSinks; n++ {
		l := sinks(n)
		log := open(l)
		if count, last := log.Head(); count != 0 || last != (api.Hash{}) {
			t.Errorf("P6: the head of a new log: %d, %x", count, last)
		}
		for i := 1; i <= 5; i++ {
			lay(t, log, l, true, slices.Repeat([]int{i}, n)...)
		}
	}
}

// One failing Append holds up its own sink alone, and but once.
func TestOneFails(t *testing.T) {
	for i := range 3 {
		l := sinks(3)
		log := open(l)
		lay(t, log, l, true, 1, 1, 1)
		l[i].Fail([]int{1})
		has := []int{2, 2, 2}
		has[i] = 1
		lay(t, log, l, true, has...)
		lay(t, log, l, true, 3, 3, 3)
	}
}

// A sink that failed for long is given frame by frame, till an Append fails again.
func TestFailsForLong(t *testing.T) {
	l := sinks(2)
	log := open(l)
	l[0].Fail([]int{1, 2, 3, 4, 7, 11})
	lay(t, log, l, true, 0, 1)
	lay(t, log, l, true, 0, 2)
	lay(t, log, l, true, 0, 3)
	lay(t, log, l, true, 0, 4)
	lay(t, log, l, true, 2, 5)
	lay(t, log, l, true, 5, 6)
	lay(t, log, l, true, 7, 7)
	lay(t, log, l, true, 8, 8)
}

// What none takes is no entry; frames that sinks had not are laid all the same.
func TestAllFail(t *testing.T) {
	l := sinks(3)
	log := open(l)
	l[0].Fail([]int{1})
	l[1].Fail([]int{1})
	l[2].Fail([]int{1})
	lay(t, log, l, false, 0, 0, 0)
	l[0].Fail([]int{1, 2, 5})
	l[1].Fail([]int{2, 4})
	l[2].Fail([]int{3})
	lay(t, log, l, true, 0, 1, 1)
	lay(t, log, l, true, 0, 1, 2)
	lay(t, log, l, false, 2, 2, 2)
	lay(t, log, l, true, 3, 3, 3)
	lay(t, log, l, true, 4, 4, 4)
}

// The last sink alone takes each other entry, the first one the others: the log goes from one to the other.
func TestByTurns(t *testing.T) {
	l := sinks(2)
	log := open(l)
	l[0].Fail([]int{2})
	l[1].Fail([]int{1})
	lay(t, log, l, true, 1, 0)
	lay(t, log, l, true, 1, 2)
	l[1].Fail([]int{1})
	lay(t, log, l, true, 3, 2)
	l[0].Fail([]int{1})
	lay(t, log, l, true, 3, 4)
}

// The list is the caller's, who may write into it.
func TestListIsNotKept(t *testing.T) {
	l := sinks(2)
	mine := slices.Clone(l)
	log := open(mine)
	mine[0], mine[1] = nil, sink.New()
	lay(t, log, l, true, 1, 1)
	if mine[0] != nil || mine[1].Read() != "" {
		t.Errorf("P2: the list that was handed in is kept")
	}
}

// Of sinks that somebody else wrote nothing is promised, but that every call ends.
func TestSinksThatSomebodyElseWrote(t *testing.T) {
	l := sinks(2)
	log := open(l)
	lay(t, log, l, true, 1, 1)
	l[0].Append("x")
	log.Lay(log.Bind(entries(1)[0]))
	l[1].Append("\xff\xff")
	log.Lay(log.Bind(entries(1)[0]))
	same := sink.New()
	log = open([]*sink.Sink{same, same})
	log.Lay(log.Bind(entries(1)[0]))
}

// Opened again, in any order of the sinks, a log goes on where it ended, by the sink that has the most of it.
func TestOpenAgain(t *testing.T) {
	l := sinks(3)
	log := open(l)
	lay(t, log, l, true, 1, 1, 1)
	l[0].Fail([]int{1, 2, 3})
	l[2].Fail([]int{2})
	lay(t, log, l, true, 1, 2, 2)
	lay(t, log, l, true, 1, 3, 2)
	for _, order := range [][]int{{0, 1, 2}, {1, 0, 2}, {2, 0, 1}, {2, 1, 0}} {
		var m []*sink.Sink
		for _, i := range order {
			s := sink.New()
			s.Append(l[i].Read())
			m = append(m, s)
		}
		again, digests := Open(m)
		if n, h := again.Head(); n != log.count || h != log.last || len(digests) != n || digests[n-1] != h {
			t.Errorf("P10: the head of a log that is opened again: %d, want %d", n, log.count)
		}
		if !slices.Equal(digests, chain.Digests(wholeLog(3))) {
			t.Errorf("P10: the digests of a log that is opened again")
		}
		if got := holds(t, wholeLog(3), m); got[0] != holds(t, wholeLog(3), l)[order[0]] {
			t.Errorf("P9: Open gives frames to a sink")
		}
		lay(t, again, m, true, 4, 4, 4)
	}
	none, digests := Open(sinks(2))
	if n, h := none.Head(); n != 0 || h != (api.Hash{}) || len(digests) != 0 {
		t.Errorf("P6: the head of sinks without bytes: %d, %x", n, h)
	}
}

// To bind is not to lay: another entry may have the place.
func TestBindLaysNothing(t *testing.T) {
	l := sinks(1)
	log := open(l)
	e := entries(1)[0]
	next := log.Bind(e)
	if next.Digest != digest.Of(e.Bytes(api.Hash{}, 0)) {
		t.Errorf("P9: the digest of the next entry")
	}
	if n, _ := log.Head(); n != 0 || l[0].Read() != "" {
		t.Errorf("P9: an entry is laid that was but bound")
	}
	lay(t, log, l, true, 1)
}
