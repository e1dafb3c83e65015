package bailey_test

import (
	"slices"
	"strings"
	"testing"

	"bailey/api"
	"bailey/bailey"
	"bailey/disk"
	"bailey/sink"
)

// keeps: how many loose bytes a crash leaves: none, few (what a request is written with may end anywhere), and all.
func keeps() []int { return []int{-1, 0, 1, 2, 5, 20, 31, 32, 33, 34, 40, 45, 50, 1 << 40} }

func openOn(t *testing.T, d *disk.Disk, l []*sink.Sink) *bailey.Vault {
	t.Helper()
	v, e := bailey.Open(d, l, "key", "adm")
	if v == nil || e != api.OK {
		t.Fatalf("P10: Open answers %d", e)
	}
	return v
}

// copied: other sinks with the same bytes.
func copied(l []*sink.Sink) []*sink.Sink {
	var out []*sink.Sink
	for _, s := range l {
		c := sink.New()
		c.Append(s.Read())
		out = append(out, c)
	}
	return out
}

// failAll lets the next Append of each sink fail.
func failAll(l []*sink.Sink) {
	for _, s := range l {
		s.Fail([]int{1})
	}
}

// askTillLost asks by turns till a request is not answered.
func askTillLost(t *testing.T, v *bailey.Vault, l ...string) {
	t.Helper()
	for i := range 100 {
		if v.Do(l[i%len(l)]) == "" {
			return
		}
	}
	t.Fatalf("P11: all requests are answered on a disk that stops")
}

// eachWay opens the vault again on the same disk, and on what a crash leaves of it, each time with other sinks that
// have the same bytes, and lets each vault be looked at.
func eachWay(t *testing.T, d *disk.Disk, l []*sink.Sink, look func(v *bailey.Vault, l []*sink.Sink)) {
	t.Helper()
	for _, keep := range keeps() {
		c := copied(l)
		look(openOn(t, d.Crash(keep), c), c)
	}
	if !d.Stopped() {
		c := copied(l)
		look(openOn(t, d, c), c)
	}
}

func TestOpenAgain(t *testing.T) {
	d, l := disk.New(), newSinks(2)
	v := openOn(t, d, l)
	play(t, v, put("adm", "a", "1"), ok+"\x01", put("adm", "a", "2"), ok+"\x02", put("adm", "b", "3"), ok+"\x01", drop("adm", "b"), ok, grant("adm", "joe", "a", 1), ok, grant("adm", "eve", "", 7), ok, revoke("adm", "eve"), ok, "x", form, put("joe", "a", "4"), denied)
	n, h := v.Head()
	v = openOn(t, d, l)
	if m, g := v.Head(); m != n || g != h {
		t.Fatalf("P10: Head behind Open: %d, want %d", m, n)
	}
	countIs(t, v, l, 9)
	play(t, v, get("adm", "a", 0), ok+text("2"), get("adm", "a", 1), ok+text("1"), get("adm", "b", 0), none, list("joe", "a"), ok+"\x01"+text("a"), put("joe", "a", ""), denied, list("eve", ""), unknown, put("adm", "b", "5"), ok+"\x02", put("adm", "a", "6"), ok+"\x03")
	countIs(t, v, l, 17)
	v = openOn(t, d, l)
	play(t, v, get("adm", "b", 1), none, get("adm", "b", 2), ok+text("5"), get("adm", "a", 3), ok+text("6"), get("adm", "a", 1), ok+text("1"))
	countIs(t, v, l, 21)
}

// What is no request may be of any length, and is between others in the log: those outlive a crash all the same.
func TestLongNonsenseAheadOfACrash(t *testing.T) {
	d, l := disk.New(), newSinks(1)
	v := openOn(t, d, l)
	for i := range 10 {
		play(t, v, strings.Repeat("P", 50*i), form, put("adm", "a", "1"), ok+byteOf(i+1), put("eve", "a", strings.Repeat("1", 40)), unknown)
	}
	eachWay(t, d, l, func(w *bailey.Vault, m []*sink.Sink) {
		countIs(t, w, m, 30)
		play(t, w, put("adm", "a", "2"), ok+"\x0b", get("adm", "a", 10), ok+text("1"))
	})
}

// All values that fit, and all that a request may have, outlive a crash.
func TestLongestRequestsOutliveACrash(t *testing.T) {
	d, l := disk.New(), newSinks(1)
	v, e := bailey.Open(d, l, "key", "abcdefgh")
	if e != api.OK {
		t.Fatalf("P6: Open answers %d", e)
	}
	path, value := strings.Repeat("z", 16), strings.Repeat("\xff", 40)
	play(t, v, put("abcdefgh", path, value), ok+"\x01", put("abcdefgh", "a", ""), ok+"\x01", grant("abcdefgh", "12345678", path, 7), ok)
	v, e = bailey.Open(d.Crash(0), l, "key", "abcdefgh")
	if e != api.OK {
		t.Fatalf("P10: Open answers %d", e)
	}
	play(t, v, get("12345678", path, 1), ok+text(value), get("abcdefgh", "a", 1), ok+text(""), get("12345678", "a", 1), denied)
}

func TestStoppedAtOpen(t *testing.T) {
	empty, written := disk.New(), disk.New()
	l := newSinks(1)
	play(t, openOn(t, written, l), put("adm", "a", "1"), ok+"\x01")
	refused := disk.New()
	refused.Stop(0)
	refused.Append("x", "x")
	for what, d := range map[string]*disk.Disk{"an empty disk": empty, "a disk with a vault": written, "a disk that has refused a step": refused} {
		d.Stop(0)
		if v, e := bailey.Open(d, l, "key", "adm"); v != nil || e != api.ErrDown {
			t.Errorf("P10: Open of %s that is stopped: %v, %d", what, v, e)
		}
		if v, e := bailey.Open(d, nil, "key", "adm"); v != nil || e != api.ErrArg {
			t.Errorf("P1: Open of %s that is stopped, without sinks: %v, %d", what, v, e)
		}
		if v, e := bailey.Open(d, l, "key", "A"); v != nil || e != api.ErrArg {
			t.Errorf("P1: Open of %s that is stopped, with no name: %v, %d", what, v, e)
		}
	}
	play(t, openOn(t, written.Crash(0), l), get("adm", "a", 0), ok+text("1"))
}

// What can't be made safe is not answered, nor anything from then on, and no entry is laid any more.
func TestNoAnswerOnceTheDiskIsStopped(t *testing.T) {
	for _, change := range []string{put("adm", "a", "2"), put("adm", "b", "2"), drop("adm", "a"), grant("adm", "eve", "", 7), revoke("adm", "joe")} {
		for steps := range 3 {
			d, l := disk.New(), newSinks(2)
			v := openOn(t, d, l)
			play(t, v, put("adm", "a", "1"), ok+"\x01", grant("adm", "joe", "", 7), ok)
			d.Stop(steps)
			if a := v.Do(change); a != "" {
				if steps == 0 {
					t.Errorf("P11: Do(%q) on a stopped disk answers %q", change, a)
				}
				continue
			}
			if !d.Stopped() {
				t.Errorf("P11: Do(%q) is not answered, though the disk goes on", change)
			}
			was := []string{l[0].Read(), l[1].Read()}
			n, h := v.Head()
			for _, request := range []string{get("adm", "a", 0), change, "x", "", list("adm", ""), put("nobody", "a", ""), drop("adm", "z")} {
				if a := v.Do(request); a != "" {
					t.Errorf("P11: Do(%q) behind a request that was not answered: %q", request, a)
				}
			}
			if m, g := v.Head(); m != n || g != h || l[0].Read() != was[0] || l[1].Read() != was[1] {
				t.Errorf("P11: an entry is laid behind Do(%q), which was not answered", change)
			}
		}
	}
}

// What changes nothing needs no disk, and may be answered; if so, its entry counts.
func TestReadingOnAStoppedDisk(t *testing.T) {
	d, l := disk.New(), newSinks(1)
	v := openOn(t, d, l)
	play(t, v, put("adm", "a", "1"), ok+"\x01")
	d.Stop(0)
	want := 1
	for _, c := range [][2]string{{get("adm", "a", 0), ok + text("1")}, {"x", form}, {drop("adm", "b"), none}, {list("eve", ""), unknown}} {
		a := v.Do(c[0])
		if a == "" {
			break
		}
		if a != c[1] {
			t.Errorf("P11: Do(%q) = %q, want %q", c[0], a, c[1])
		}
		want++
	}
	countIs(t, openOn(t, d.Crash(0), l), l, want)
}

// What no sink took was not done, behind Open either, whatever came to its place: nothing, what changes nothing,
// another change, or the same again.
func TestWhatNoSinkTookIsNotDoneBehindOpen(t *testing.T) {
	for what, c := range map[string]struct {
		behind []string
		value  string
	}{
		"nothing":                      {nil, "1"},
		"a read":                       {[]string{get("adm", "b", 0), none}, "1"},
		"no request":                   {[]string{"x", form}, "1"},
		"another value":                {[]string{put("adm", "a", "3"), ok + "\x02"}, "3"},
		"another path":                 {[]string{put("adm", "b", "2"), ok + "\x01"}, "1"},
		"the same again":               {[]string{put("adm", "a", "2"), ok + "\x02"}, "2"},
		"the same behind a read":       {[]string{get("adm", "a", 0), ok + text("1"), put("adm", "a", "2"), ok + "\x02"}, "2"},
		"a token":                      {[]string{grant("adm", "joe", "", 7), ok}, "1"},
		"another value, and it itself": {[]string{put("adm", "a", "3"), ok + "\x02", put("adm", "a", "2"), ok + "\x03"}, "2"},
	} {
		d, l := disk.New(), newSinks(2)
		v := openOn(t, d, l)
		play(t, v, put("adm", "a", "1"), ok+"\x01")
		for range 2 {
			failAll(l)
			play(t, v, put("adm", "a", "2"), audit)
		}
		play(t, v, c.behind...)
		n, h := v.Head()
		eachWay(t, d, l, func(w *bailey.Vault, m []*sink.Sink) {
			if k, g := w.Head(); k != n || g != h {
				t.Errorf("P10: %s behind what no sink took: %d entries, want %d", what, k, n)
			}
			if a := w.Do(get("adm", "a", 0)); a != ok+text(c.value) {
				t.Errorf("P10: %s behind what no sink took: %q, want %q", what, a, c.value)
			}
			failAll(m)
			play(t, w, drop("adm", "a"), audit, get("adm", "a", 0), ok+text(c.value))
		})
	}
}

// What was not answered may be there whole, or in part, or not at all; asked for again, it is done once.
func TestTheSameAgainBehindACrash(t *testing.T) {
	for steps := range 2 {
		for _, keep := range keeps() {
			d, l := disk.New(), newSinks(1)
			v := openOn(t, d, l)
			play(t, v, put("adm", "a", "1"), ok+"\x01")
			d.Stop(steps)
			if a := v.Do(put("adm", "a", "2")); a != "" {
				continue // it was made safe in fewer steps
			}
			d = d.Crash(keep)
			v = openOn(t, d, l)
			version := 2
			if n, _ := v.Head(); n == 2 {
				version = 3
			}
			play(t, v, put("adm", "a", "2"), ok+byteOf(version), put("adm", "a", "9"), ok+byteOf(version+1))
			eachWay(t, d, l, func(w *bailey.Vault, _ []*sink.Sink) {
				play(t, w, get("adm", "a", version), ok+text("2"), get("adm", "a", 0), ok+text("9"), get("adm", "a", version+2), none, put("adm", "a", ""), ok+byteOf(version+2))
			})
		}
	}
}

// Crash behind crash, each within a request: what is answered in between stays, whatever was left behind it.
func TestManyCrashes(t *testing.T) {
	for _, keep := range keeps() {
		for steps := range 3 {
			d, l := disk.New(), newSinks(1)
			for i := range api.MaxVersions {
				v := openOn(t, d, l)
				play(t, v, put("adm", "p"+byteOf('a'+i%api.MaxPaths), "v"+byteOf(i)), ok+byteOf(1+i/api.MaxPaths))
				d.Stop(steps)
				askTillLost(t, v, grant("adm", "joe", "", 1), revoke("adm", "joe"))
				d = d.Crash(keep)
			}
			v := openOn(t, d, l)
			for i := range api.MaxVersions {
				play(t, v, get("adm", "p"+byteOf('a'+i%api.MaxPaths), 1+i/api.MaxPaths), ok+text("v"+byteOf(i)))
			}
		}
	}
}

// The disk stops within Open, behind every number of steps, and what is left of that is opened likewise: at the end
// there is a vault, and it has everything.
func TestStopsWithinOpen(t *testing.T) {
	for _, left := range keeps() {
		for _, keep := range keeps() {
			for first := range 6 {
				d, l := disk.New(), newSinks(2)
				v := openOn(t, d, l)
				play(t, v, put("adm", "a", "1"), ok+"\x01", grant("adm", "joe", "a", 3), ok)
				d.Stop(1)
				askTillLost(t, v, put("joe", "a", strings.Repeat("2", 40)))
				d = d.Crash(left)
				want, _ := openOn(t, d.Crash(0), copied(l)).Head()
				for steps := first; ; steps++ {
					d.Stop(steps)
					w, e := bailey.Open(d, l, "key", "adm")
					if e == api.OK {
						break
					}
					if w != nil || e != api.ErrDown || !d.Stopped() {
						t.Fatalf("P10: Open of a disk that stops behind %d steps: %v, %d", steps, w, e)
					}
					if steps > 1000 {
						t.Fatalf("P10: Open needs more than %d steps", steps)
					}
					d = d.Crash(keep)
				}
				v = openOn(t, d.Crash(keep), l)
				countIs(t, v, l, want)
				play(t, v, get("joe", "a", 1), ok+text("1"), put("joe", "a", "3"), ok+byteOf(want))
			}
		}
	}
}

// stepsOfOpen tells how many steps Open does on a disk, by how many are left.
func stepsOfOpen(t *testing.T, d *disk.Disk, l []*sink.Sink) int {
	t.Helper()
	const many = 1000
	d = d.Crash(0)
	d.Stop(many)
	openOn(t, d, copied(l))
	left := 0
	for d.Append("x", "") {
		left++
	}
	return many - left
}

// Open answers ErrDown if the disk refuses a step that it needs, whichever, and a vault if not.
func TestOpenNeedsItsSteps(t *testing.T) {
	for _, keep := range keeps() {
		d, l := disk.New(), newSinks(1)
		v := openOn(t, d, l)
		play(t, v, put("adm", "a", "1"), ok+"\x01")
		d.Stop(1)
		askTillLost(t, v, put("adm", "a", "2"))
		d = d.Crash(keep)
		need := stepsOfOpen(t, d, l)
		for steps := range need + 3 {
			c := d.Crash(0)
			c.Stop(steps)
			want := api.OK
			if steps == 0 || steps < need {
				want = api.ErrDown
			}
			if w, e := bailey.Open(c, copied(l), "key", "adm"); e != want || (w == nil) != (e == api.ErrDown) {
				t.Errorf("P10: Open, which needs %d steps, on a disk that stops behind %d: %v, %d", need, steps, w, e)
			}
		}
	}
}

// The first Open on a new disk stops too, and leaves what can be opened.
func TestStopsWithinFirstOpen(t *testing.T) {
	for steps := range 20 {
		for _, keep := range keeps() {
			d, l := disk.New(), newSinks(1)
			d.Stop(steps)
			v, e := bailey.Open(d, l, "key", "adm")
			if (v == nil) != (e == api.ErrDown) || v != nil && e != api.OK || steps == 0 && v != nil {
				t.Fatalf("P10: the first Open, %d steps: %v, %d", steps, v, e)
			}
			d = d.Crash(keep)
			v = openOn(t, d, l)
			if n, h := v.Head(); n != 0 || h != (api.Hash{}) {
				t.Fatalf("P10: Head of what the first Open left: %d, %x", n, h)
			}
			play(t, v, list("adm", ""), ok+"\x00", put("adm", "a", "1"), ok+"\x01")
			play(t, openOn(t, d.Crash(0), l), get("adm", "a", 0), ok+text("1"))
		}
	}
}

// Sinks that failed once, and for long, have fewer frames than others: the log is that of the one that has most, and
// the others are given theirs by the next vault.
func TestSinksWithDifferentNumbersOfFrames(t *testing.T) {
	for long := range 3 {
		once, most := (long+1)%3, (long+2)%3
		d, l := disk.New(), newSinks(3)
		v := openOn(t, d, l)
		play(t, v, put("adm", "a", "1"), ok+"\x01")
		l[long].Fail([]int{1, 2, 3})
		l[once].Fail([]int{3})
		play(t, v, put("adm", "a", "2"), ok+"\x02", get("adm", "a", 0), ok+text("2"), put("adm", "a", "3"), ok+"\x03")
		n, h := v.Head()
		if e, k := bailey.Verify(l[most].Read(), n, h); e != api.OK || k != 4 || len(l[long].Read()) >= len(l[once].Read()) || len(l[once].Read()) >= len(l[most].Read()) {
			t.Fatalf("P9: the sinks have not 1, 3 and 4 frames")
		}
		eachWay(t, d, l, func(w *bailey.Vault, m []*sink.Sink) {
			for i := range m {
				if m[i].Read() != l[i].Read() {
					t.Errorf("P9: Open lays what is no new entry")
				}
			}
			if k, g := w.Head(); k != n || g != h {
				t.Fatalf("P10: Head is %d, want %d", k, n)
			}
			failAll(m)
			play(t, w, put("adm", "a", "4"), audit, get("adm", "a", 0), ok+text("3"))
			countIs(t, w, m, 5)
		})
	}
}

// In whatever order the sinks stand, and with others that have fewer bytes beside them, the log is the longest one's.
func TestSinksInAnotherOrder(t *testing.T) {
	d, l := disk.New(), newSinks(3)
	v := openOn(t, d, l)
	l[0].Fail([]int{1, 2})
	l[2].Fail([]int{2})
	play(t, v, put("adm", "a", "1"), ok+"\x01", put("adm", "b", "2"), ok+"\x01")
	for _, order := range [][]int{{0, 1, 2}, {0, 2, 1}, {1, 0, 2}, {1, 2, 0}, {2, 0, 1}, {2, 1, 0}} {
		c := copied(l)
		m := []*sink.Sink{c[order[0]], c[order[1]], c[order[2]]}
		w := openOn(t, d.Crash(0), m)
		play(t, w, get("adm", "b", 0), ok+text("2"), get("adm", "a", 0), ok+text("1"))
		countIs(t, w, m, 4)
	}
}

// What two vaults were opened with has nothing to do with one another, though it comes of the same disk and sinks.
func TestVaultsOfOneCrashGoApart(t *testing.T) {
	d, l := disk.New(), newSinks(1)
	play(t, openOn(t, d, l), put("adm", "a", "1"), ok+"\x01")
	c, m := d.Crash(0), copied(l)
	v, w := openOn(t, d, l), openOn(t, c, m)
	play(t, v, put("adm", "a", "2"), ok+"\x02")
	play(t, w, put("adm", "a", "3"), ok+"\x02")
	d.Stop(0)
	play(t, w, grant("adm", "joe", "", 7), ok)
	play(t, openOn(t, d.Crash(0), l), get("adm", "a", 0), ok+text("2"), list("joe", ""), unknown)
	play(t, openOn(t, c, m), get("adm", "a", 0), ok+text("3"), list("joe", ""), ok+"\x01"+text("a"))
}

// The list is the caller's, whose spare room is not written into, behind an Open of what there was as well.
func TestListIsNotKeptBehindOpen(t *testing.T) {
	d, l := disk.New(), newSinks(4)
	play(t, openOn(t, d, l[:2]), put("adm", "a", "1"), ok+"\x01")
	mine := slices.Clone(l)
	v := openOn(t, d, mine[:2])
	mine[0], mine[1] = nil, nil
	play(t, v, put("adm", "a", "2"), ok+"\x02")
	countIs(t, v, l[:2], 2)
	if mine[2] != l[2] || mine[3] != l[3] || l[2].Read() != "" || l[3].Read() != "" {
		t.Errorf("P2: what stands behind the list was written into")
	}
}

// FuzzOpen: on disks and sinks that somebody else wrote nothing is promised, but that every call ends.
func FuzzOpen(f *testing.F) {
	for _, s := range []string{"", "x", "\x8a\x00", strings.Repeat("\x00", 33), strings.Repeat("\xff", 70)} {
		f.Add(s, s, 0, true)
		f.Add(s, "", 1, false)
		f.Add("", s, 2, true)
	}
	f.Fuzz(func(t *testing.T, onDisk string, inSink string, steps int, behind bool) {
		d, l := disk.New(), newSinks(2)
		if behind {
			v := openOn(t, d, l)
			play(t, v, put("adm", "a", "1"), ok+"\x01", grant("adm", "joe", "", 7), ok)
		} else {
			// The names of files are the program's own: they are those that a vault makes.
			other := disk.New()
			play(t, openOn(t, other, newSinks(1)), put("adm", "a", "1"), ok+"\x01")
			for _, name := range other.Names() {
				d.Append(name, onDisk)
			}
		}
		for _, name := range d.Names() {
			d.Append(name, onDisk)
		}
		l[1].Append(inSink)
		d.Stop(steps)
		v, e := bailey.Open(d, l, "key", "adm")
		if (v == nil) != (e == api.ErrDown) {
			t.Fatalf("P1: Open answers %v, %d", v, e)
		}
		if v != nil {
			v.Do(put("adm", "a", "2"))
			v.Do("x")
			v.Head()
		}
	})
}
