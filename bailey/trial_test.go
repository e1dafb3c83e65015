package bailey_test

import (
	"math/rand"
	"strconv"
	"testing"

	"bailey/api"
	"bailey/bailey"
	"bailey/disk"
	"bailey/sink"
)

// trial is a vault beside its model, with what it was opened with.
type trial struct {
	*testing.T
	r *rand.Rand
	d *disk.Disk
	l []*sink.Sink
	v *bailey.Vault
	m *model
}

// keep: how many loose bytes a crash leaves.
func (x *trial) keep() int { return keeps()[x.r.Intn(len(keeps()))] }

// ask asks the vault and the model; false: it was not answered.
func (x *trial) ask(w wish) bool {
	x.Helper()
	got := x.v.Do(w.bytes)
	if got == "" && x.d.Stopped() {
		return false
	}
	if want := x.m.do(w); got != want {
		x.Fatalf("P7, P11: Do(%q) = %q, want %q", w.bytes, got, want)
	}
	x.m.agrees(x.T, x.v, x.l)
	return true
}

// stays: nothing is answered any more, and no entry laid.
func (x *trial) stays() {
	x.Helper()
	was := copied(x.l)
	for range 4 {
		if w := wishFor(x.r); x.v.Do(w.bytes) != "" {
			x.Fatalf("P11: Do(%q) behind a request that was not answered is", w.bytes)
		}
	}
	for i := range was {
		if x.l[i].Read() != was[i].Read() {
			x.Fatalf("P11: an entry is laid behind a request that was not answered")
		}
	}
}

// crash goes over to what a crash leaves of the disk, and to other sinks with the same bytes.
func (x *trial) crash() {
	x.d, x.l = x.d.Crash(x.keep()), copied(x.l)
	for i := range x.m.sinks {
		x.m.sinks[i].fails = nil
	}
}

// open opens the vault. Now and then the disk stops, meanwhile or later; what a crash leaves of one that stopped is
// opened in its place.
func (x *trial) open() {
	x.Helper()
	for {
		if x.r.Intn(3) == 0 {
			x.d.Stop(x.r.Intn(8))
		}
		v, e := bailey.Open(x.d, x.l, "key", "adm")
		if e == api.OK {
			x.v = v
			return
		}
		if v != nil || e != api.ErrDown || !x.d.Stopped() {
			x.Fatalf("P10: Open answers %v, %d", v, e)
		}
		x.crash()
	}
}

// settle lets the model do what was not answered, if there is an entry of it.
func (x *trial) settle(lost wish) {
	x.Helper()
	if n, _ := x.v.Head(); n == len(x.m.frames) {
		return
	}
	x.m.do(lost)
	for i := range x.l {
		x.m.sinks[i].has = 0
		for left := x.l[i].Read(); left != ""; x.m.sinks[i].has++ {
			left = left[len(x.m.frames[x.m.sinks[i].has]):]
		}
	}
}

// look asks a vault on copies for all that the model has, so that nothing is audited where it stands.
func (x *trial) look() {
	x.Helper()
	y := &trial{T: x.T, r: x.r, d: x.d.Crash(x.keep()), l: copied(x.l), m: x.m.apart()}
	y.v = openOn(x.T, y.d, y.l)
	y.m.agrees(x.T, y.v, y.l)
	for _, p := range x.m.paths {
		for version := range p.next + 1 {
			y.want(wish{op: 'G', who: "adm", path: p.name, version: version})
		}
	}
	for _, who := range x.m.tokens {
		for _, prefix := range []string{"", "a", "a/", "b"} {
			y.want(wish{op: 'L', who: who.name, path: prefix, prefix: prefix})
		}
		y.want(wish{op: 'D', who: who.name, path: who.prefix + "zz"})
		y.want(wish{op: 'R', who: who.name, name: "zz"})
	}
	for _, p := range x.m.paths {
		y.want(wish{op: 'P', who: "adm", path: p.name})
	}
	y.want(wish{op: 'P', who: "adm", path: "new"})
	y.want(wish{op: 'T', who: "adm", name: "new", rights: 1})
	y.m.agrees(x.T, y.v, y.l)
}

func (x *trial) want(w wish) {
	x.Helper()
	w.write()
	if got, want := x.v.Do(w.bytes), x.m.do(w); got != want {
		x.Fatalf("P10: behind Open: Do(%q) = %q, want %q", w.bytes, got, want)
	}
}

// run: many requests by chance; sinks fail, the vault is opened again, and the disk stops, within requests and Opens.
func (x *trial) run() {
	x.open()
	for range 120 {
		for x.r.Intn(6) == 0 {
			x.m.fail(x.r, x.l)
		}
		switch x.r.Intn(12) {
		case 0:
			x.open()
			x.m.agrees(x.T, x.v, x.l)
		case 1:
			x.crash()
			x.open()
			x.m.agrees(x.T, x.v, x.l)
			x.look()
		case 2:
			x.d.Stop(x.r.Intn(8))
		}
		if w := wishFor(x.r); !x.ask(w) {
			x.stays()
			x.crash()
			x.open()
			x.settle(w)
			x.m.agrees(x.T, x.v, x.l)
			x.look()
		}
	}
}

func TestCrashesAgainstModel(t *testing.T) {
	for seed := range 80 {
		t.Run(strconv.Itoa(seed), func(t *testing.T) {
			count := 1 + seed%4
			x := &trial{T: t, r: rand.New(rand.NewSource(int64(seed))), d: disk.New(), l: newSinks(count), m: newModel(count)}
			x.run()
			for i, s := range x.m.sinks {
				checkSink(t, x.l[i].Read(), s.has, x.m.frames)
			}
		})
	}
}

// The disk stops behind every number of steps, from the first Open on.
func TestStopsAtEveryStep(t *testing.T) {
	for steps := range 60 {
		for _, keep := range []int{0, 1, 40, 1 << 40} {
			x := &trial{T: t, r: rand.New(rand.NewSource(int64(steps))), d: disk.New(), l: newSinks(2), m: newModel(2)}
			x.d.Stop(steps)
			v, e := bailey.Open(x.d, x.l, "key", "adm")
			if e == api.OK {
				x.v = v
				x.goOn(keep)
			} else if v != nil || e != api.ErrDown {
				t.Fatalf("P10: the first Open, %d steps: %v, %d", steps, v, e)
			}
		}
	}
}

// goOn asks till a request is not answered, and looks at what a crash leaves.
func (x *trial) goOn(keep int) {
	x.Helper()
	for i := range 1000 {
		if i%10 == 9 {
			x.m.fail(x.r, x.l)
		}
		if w := wishFor(x.r); !x.ask(w) {
			x.stays()
			x.d = x.d.Crash(keep)
			x.v = openOn(x.T, x.d, x.l)
			x.settle(w)
			x.m.agrees(x.T, x.v, x.l)
			x.look()
			return
		}
	}
	x.Fatalf("P11: all requests are answered on a disk that stops")
}
