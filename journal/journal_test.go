package journal

import (
	"slices"
	"strings"
	"testing"

	"bailey/api"
	"bailey/digest"
	"bailey/disk"
)

// entry: the digest of some entry.
func entry(i int) api.Hash { return digest.Of(string([]byte{byte(i)})) }

// request: what is written with that entry; they are of different lengths.
func request(i int) string { return strings.Repeat(string([]byte{byte('a' + i)}), i*7%69) }

// entries: the digests of entries with these numbers.
func entries(l ...int) []api.Hash {
	var out []api.Hash
	for _, i := range l {
		out = append(out, entry(i))
	}
	return out
}

func open(t *testing.T, d *disk.Disk) *Journal {
	t.Helper()
	j, ok := Open(d)
	if j == nil || !ok {
		t.Fatalf("P10: Open of a journal: %v, %v", j, ok)
	}
	return j
}

func write(t *testing.T, j *Journal, l ...int) {
	t.Helper()
	for _, i := range l {
		if !j.Write(entry(i), request(i)) {
			t.Fatalf("P11: Write is refused by a disk that goes on")
		}
	}
}

// tells checks which requests are told for a log of all entries from 0 to 9.
func tells(t *testing.T, j *Journal, want ...int) {
	t.Helper()
	var l []string
	for _, i := range want {
		l = append(l, request(i))
	}
	if got := j.Requests(entries(0, 1, 2, 3, 4, 5, 6, 7, 8, 9)); !slices.Equal(got, l) {
		t.Fatalf("P10: the requests are %q, want %q", got, l)
	}
}

func TestWrittenIsTold(t *testing.T) {
	d := disk.New()
	j := open(t, d)
	tells(t, j)
	write(t, j, 0, 1, 2, 5, 9)
	tells(t, j, 0, 1, 2, 5, 9)
	tells(t, open(t, d), 0, 1, 2, 5, 9)
	tells(t, open(t, d.Crash(0)), 0, 1, 2, 5, 9)
	j = open(t, d)
	write(t, j, 7)
	tells(t, open(t, d), 0, 1, 2, 5, 7, 9)
}

// What has no entry in the log was not done; what stands there twice was done once; the log's order is that of what
// was done.
func TestOnlyWhatTheLogHas(t *testing.T) {
	j := open(t, disk.New())
	write(t, j, 1, 2, 2, 3, 1, 4)
	for _, c := range []struct {
		log  []api.Hash
		want []string
	}{
		{nil, nil},
		{entries(0, 9), nil},
		{entries(1), []string{request(1)}},
		{entries(0, 2, 9, 4), []string{request(2), request(4)}},
		{entries(4, 2), []string{request(4), request(2)}},
		{[]api.Hash{{}}, nil},
	} {
		if got := j.Requests(c.log); !slices.Equal(got, c.want) {
			t.Errorf("P10: the requests are %q, want %q", got, c.want)
		}
	}
}

func TestStoppedDisk(t *testing.T) {
	d := disk.New()
	j := open(t, d)
	write(t, j, 1)
	for steps := range 2 {
		c := d.Crash(0)
		k := open(t, c)
		c.Stop(steps)
		if k.Write(entry(2), request(2)) {
			t.Errorf("P11: Write is done by a disk that stops behind %d steps", steps)
		}
		if l, ok := Open(c); l != nil || ok {
			t.Errorf("P10: Open of a stopped disk: %v, %v", l, ok)
		}
		tells(t, open(t, c.Crash(0)), 1)
	}
	d.Stop(0)
	if l, ok := Open(d); l != nil || ok {
		t.Errorf("P10: Open of a disk that has no step left: %v, %v", l, ok)
	}
}

// A last record that a crash cut short, anywhere, is not told, and what is written behind it is.
func TestTornRecord(t *testing.T) {
	for last := range 10 {
		size := 33 + len(request(last))
		for keep := range size + 1 {
			d := disk.New()
			write(t, open(t, d), 3, 6)
			d.Stop(1)
			open(t, d).Write(entry(last), request(last))
			d = d.Crash(keep)
			j := open(t, d)
			want := []int{3, 6}
			if keep == size {
				want = union(want, last)
			}
			tells(t, j, want...)
			write(t, j, 8)
			tells(t, open(t, d.Crash(0)), union(want, 8)...)
		}
	}
}

// union: these numbers and one more, rising, each once.
func union(l []int, more int) []int {
	all := append(slices.Clone(l), more)
	slices.Sort(all)
	return slices.Compact(all)
}

// A first record too: then there is no whole one.
func TestTornFirstRecord(t *testing.T) {
	for keep := range 33 {
		d := disk.New()
		j := open(t, d)
		d.Stop(1)
		j.Write(entry(1), request(1))
		d = d.Crash(keep)
		j = open(t, d)
		tells(t, j)
		write(t, j, 2)
		tells(t, open(t, d.Crash(0)), 2)
	}
}

// The disk stops within what Open does, behind every number of steps, again and again, and keeps whatever it keeps.
func TestStopsWithinOpen(t *testing.T) {
	for _, keep := range []int{0, 1, 33, 60, 1000} {
		for first := range 5 {
			d := disk.New()
			write(t, open(t, d), 1, 2, 3)
			d.Stop(1)
			open(t, d).Write(entry(4), request(4))
			d = d.Crash(20)
			for steps := first; steps < 20; steps++ {
				d.Stop(steps)
				if j, ok := Open(d); ok {
					tells(t, j, 1, 2, 3)
					break
				}
				d = d.Crash(keep)
				tells(t, open(t, d.Crash(0)), 1, 2, 3)
			}
			d = d.Crash(keep)
			j := open(t, d)
			write(t, j, 5)
			tells(t, open(t, d.Crash(0)), 1, 2, 3, 5)
		}
	}
}

// Open leaves a journal that is whole alone, and cleans up what it began.
func TestOpenLeavesNoOtherFiles(t *testing.T) {
	d := disk.New()
	write(t, open(t, d), 1)
	was := d.Read(current)
	d.Stop(1)
	open(t, d)
	if !d.Append("x", "") {
		t.Errorf("Open of a journal that is whole takes steps")
	}
	d = d.Crash(0)
	d.Remove("x")
	d.Append(current, "torn")
	d.Append(mended, "what an earlier Open left")
	open(t, d)
	if names := d.Names(); !slices.Equal(names, []string{current}) || d.Read(current) != was {
		t.Errorf("behind Open there are %q, and the journal has %d bytes, want %d", names, len(d.Read(current)), len(was))
	}
	if c := d.Crash(0); c.Read(current) != was {
		t.Errorf("P10: behind Open the journal is not safe")
	}
}

// FuzzOpen: whatever is on the disk, Open and what is behind it come to an end.
func FuzzOpen(f *testing.F) {
	for _, s := range []string{"", "x", strings.Repeat("\x00", 33), strings.Repeat("\xff", 33), strings.Repeat("\x01", 100)} {
		f.Add(s)
	}
	f.Fuzz(func(t *testing.T, data string) {
		d := disk.New()
		d.Append(current, data)
		j := open(t, d)
		j.Requests(entries(1))
		write(t, j, 2)
		if got := open(t, d).Requests(entries(2)); !slices.Equal(got, []string{request(2)}) {
			t.Errorf("P10: behind other bytes, the requests are %q", got)
		}
	})
}
