package bailey_test

import (
	"slices"
	"strings"
	"testing"

	"bailey/api"
	"bailey/bailey"
	"bailey/disk"
	"bailey/sink"
)

// What answers begin with.
const (
	ok      = "\x00"
	form    = "\x01"
	unknown = "\x02"
	denied  = "\x03"
	none    = "\x04"
	full    = "\x05"
	audit   = "\x06"
	exists  = "\x07"
)

func byteOf(n int) string { return string([]byte{byte(n)}) }

func text(s string) string { return byteOf(len(s)) + s }

func put(who, path, value string) string { return "P" + text(who) + text(path) + text(value) }

func get(who, path string, version int) string {
	return "G" + text(who) + text(path) + byteOf(version)
}

func drop(who, path string) string { return "D" + text(who) + text(path) }

func list(who, prefix string) string { return "L" + text(who) + text(prefix) }

func grant(who, name, prefix string, rights int) string {
	return "T" + text(who) + text(name) + text(prefix) + byteOf(rights)
}

func revoke(who, name string) string { return "R" + text(who) + text(name) }

func newSinks(n int) []*sink.Sink {
	var l []*sink.Sink
	for range n {
		l = append(l, sink.New())
	}
	return l
}

func open(t *testing.T, l []*sink.Sink) *bailey.Vault {
	t.Helper()
	v, e := bailey.Open(disk.New(), l, "key", "adm")
	if v == nil || e != api.OK {
		t.Fatalf("P6: Open answers %d", e)
	}
	return v
}

// play: requests and their answers, by turns.
func play(t *testing.T, v *bailey.Vault, l ...string) {
	t.Helper()
	for i := 0; i+1 < len(l); i += 2 {
		if a := v.Do(l[i]); a != l[i+1] {
			t.Fatalf("P7: Do(%q) = %q, want %q", l[i], a, l[i+1])
		}
	}
}

// countIs checks how many entries there are, and that each sink has them all.
func countIs(t *testing.T, v *bailey.Vault, l []*sink.Sink, want int) {
	t.Helper()
	n, h := v.Head()
	if n != want {
		t.Fatalf("P9: there are %d entries, want %d", n, want)
	}
	for i, s := range l {
		if e, k := bailey.Verify(s.Read(), n, h); e != api.OK || k != n {
			t.Fatalf("P12: the sink %d is verified by %d, %d", i, e, k)
		}
	}
}

// The third row of the document's examples.
func TestExampleOfTheVault(t *testing.T) {
	l := newSinks(1)
	v, e := bailey.Open(disk.New(), l, "k", "adm")
	if e != api.OK {
		t.Fatalf("P6: Open answers %d", e)
	}
	play(t, v, "P\x03adm\x03a/b\x03one", "\x00\x01", "G\x03adm\x03a/b\x00", "\x00\x03one", "T\x03adm\x03joe\x02a/\x01", "\x00", "P\x03joe\x03a/b\x01x", "\x03", "G\x03joe\x01b\x00", "\x03", "L\x03joe\x02a/", "\x00\x01\x03a/b", "x", "\x01")
	countIs(t, v, l, 7)
	l[0].Fail([]int{1})
	play(t, v, "D\x03adm\x03a/b", "\x06")
	countIs(t, v, l, 7)
	play(t, v, "D\x03adm\x03a/b", "\x00")
	countIs(t, v, l, 8)
}

func TestOpenRefuses(t *testing.T) {
	for what, c := range map[string]struct {
		l    []*sink.Sink
		root string
	}{
		"no list":                   {nil, "adm"},
		"no sink":                   {[]*sink.Sink{}, "adm"},
		"five sinks":                {newSinks(5), "adm"},
		"many sinks":                {newSinks(100), "adm"},
		"a sink that is nil":        {[]*sink.Sink{nil}, "adm"},
		"a first one that is nil":   {[]*sink.Sink{nil, sink.New()}, "adm"},
		"a last one that is nil":    {append(newSinks(3), nil), "adm"},
		"one in between":            {[]*sink.Sink{sink.New(), nil, sink.New()}, "adm"},
		"an empty root":             {newSinks(1), ""},
		"too long a root":           {newSinks(1), "abcdefghi"},
		"a root that is a path":     {newSinks(1), "a/b"},
		"a root with a great one":   {newSinks(1), "Adm"},
		"a root with a byte 0":      {newSinks(1), "adm\x00"},
		"a root of bytes above 127": {newSinks(1), "\xff\xfe"},
		"both wrong":                {newSinks(5), ""},
	} {
		if v, e := bailey.Open(disk.New(), c.l, "key", c.root); v != nil || e != api.ErrArg {
			t.Errorf("P6: Open with %s: %v, %d, want nil, ErrArg", what, v, e)
		}
	}
}

func TestOpenMakesAVault(t *testing.T) {
	for n := 1; n <= api.MaxSinks; n++ {
		for _, root := range []string{"a", "0", "adm", "abcdefgh"} {
			for _, key := range []string{"", "k", strings.Repeat("k", 64), strings.Repeat("k", 1000)} {
				l := newSinks(n)
				v, e := bailey.Open(disk.New(), l, key, root)
				if v == nil || e != api.OK {
					t.Fatalf("P6: Open with %d sinks, root %q: %v, %d", n, root, v, e)
				}
				if count, h := v.Head(); count != 0 || h != (api.Hash{}) {
					t.Errorf("P6: the head of a new vault: %d, %x", count, h)
				}
				for i, s := range l {
					if s.Read() != "" {
						t.Errorf("P6: Open wrote into the sink %d", i)
					}
				}
				play(t, v, list(root, ""), ok+"\x00", put(root, "z", ""), ok+"\x01", get(root, "z", 0), ok+"\x00", grant(root, "new", "", 7), ok, revoke(root, root), denied, list("other", ""), unknown)
				countIs(t, v, l, 6)
			}
		}
	}
}

func TestNoRequests(t *testing.T) {
	l := newSinks(1)
	v := open(t, l)
	bad := []string{
		"", "\x00", "P", "p" + put("adm", "a", "x")[1:], "X" + text("adm"), "\x00" + text("adm"),
		put("", "a", "x"), put("Adm", "a", "x"), put("abcdefghi", "a", "x"), put("a/", "a", "x"),
		put("adm", "", "x"), put("adm", "A", "x"), put("adm", "a b", "x"), put("adm", "0123456789abcdefg", "x"),
		put("adm", "a", strings.Repeat("x", 41)), put("adm", "a", strings.Repeat("x", 255)), put("adm", "a", "x") + "x",
		get("adm", "", 0), get("adm", "a", 0) + "\x00", "G" + text("adm") + text("a"),
		drop("adm", ""), drop("adm", "a") + "\x00", list("adm", "A"), list("adm", "0123456789abcdefg"), list("adm", "") + "\x00",
		grant("adm", "", "", 1), grant("adm", "a/", "", 1), grant("adm", "abcdefghi", "", 1), grant("adm", "a", "A", 1), grant("adm", "a", "", 0), grant("adm", "a", "", 8), grant("adm", "a", "", 1) + "\x01",
		revoke("adm", ""), revoke("adm", "a/b"), revoke("adm", "a") + "x", strings.Repeat("P", 100000),
	}
	for i, s := range bad {
		play(t, v, s, form)
		countIs(t, v, l, i+1)
	}
	play(t, v, list("adm", ""), ok+"\x00", put("adm", "0123456789abcdef", strings.Repeat("x", 40)), ok+"\x01", get("adm", "0123456789abcdef", 1), ok+text(strings.Repeat("x", 40)))
}

// Values may be of any bytes, the same one twice, or empty.
func TestValues(t *testing.T) {
	v := open(t, newSinks(1))
	for i, value := range []string{"", "\x00", "\xff\xfe", "one", "one", strings.Repeat("\x00", 40)} {
		play(t, v, put("adm", "a", value), ok+byteOf(i+1), get("adm", "a", 0), ok+text(value), get("adm", "a", i+1), ok+text(value), get("adm", "a", i+2), none)
	}
	play(t, v, get("adm", "a", 1), ok+text(""), get("adm", "a", 4), ok+text("one"), get("adm", "a", 255), none)
}

func TestTwentyVersions(t *testing.T) {
	v := open(t, newSinks(1))
	play(t, v, get("adm", "a", 0), none, get("adm", "a", 1), none, drop("adm", "a"), none)
	for i := 1; i <= api.MaxVersions; i++ {
		play(t, v, put("adm", "a", "v"+byteOf(i)), ok+byteOf(i))
	}
	play(t, v, put("adm", "a", "x"), full, get("adm", "a", 0), ok+text("v\x14"), get("adm", "a", 20), ok+text("v\x14"), get("adm", "a", 1), ok+text("v\x01"), get("adm", "a", 21), none)
	play(t, v, drop("adm", "a"), ok, get("adm", "a", 0), none, get("adm", "a", 20), none, drop("adm", "a"), none, put("adm", "a", "x"), full, list("adm", ""), ok+"\x00", put("adm", "b", "x"), ok+"\x01")
}

func TestSixteenPaths(t *testing.T) {
	v := open(t, newSinks(1))
	all := ""
	for i := range api.MaxPaths {
		path := "p" + byteOf('a'+i)
		all += text(path)
		play(t, v, put("adm", path, "x"), ok+"\x01")
	}
	play(t, v, list("adm", ""), ok+"\x10"+all, put("adm", "q", "x"), full, put("adm", "pa", "y"), ok+"\x02")
	play(t, v, drop("adm", "pb"), ok, put("adm", "q", "x"), full, list("adm", "pb"), ok+"\x00", put("adm", "pb", "z"), ok+"\x02", get("adm", "pb", 1), none, get("adm", "pb", 0), ok+text("z"))
}

func TestEightTokens(t *testing.T) {
	v := open(t, newSinks(1))
	for i := 1; i < api.MaxTokens; i++ {
		play(t, v, grant("adm", "t"+byteOf('0'+i), "", 1), ok)
	}
	play(t, v, grant("adm", "t8", "", 1), full, grant("adm", "t7", "", 1), exists, grant("adm", "adm", "", 1), exists, list("t8", ""), unknown, list("t7", ""), ok+"\x00")
	play(t, v, revoke("adm", "t3"), ok, list("t3", ""), unknown, revoke("adm", "t3"), none, grant("adm", "t8", "", 1), ok, grant("adm", "t3", "", 1), full)
}

// A token that comes again has its new prefix and rights, and none that it had.
func TestTokenComesAgain(t *testing.T) {
	v := open(t, newSinks(1))
	play(t, v, put("adm", "a", "1"), ok+"\x01", grant("adm", "joe", "a", 3), ok, get("joe", "a", 0), ok+text("1"), revoke("adm", "joe"), ok, get("joe", "a", 0), unknown, grant("adm", "joe", "b", 4), ok, get("joe", "a", 0), denied, put("joe", "b", "1"), denied)
	play(t, v, grant("joe", "eve", "", 7), ok, revoke("joe", "adm"), denied, revoke("joe", "joe"), ok, revoke("joe", "eve"), unknown, get("eve", "a", 0), ok+text("1"))
}

// What no sink takes is not done, whatever it is, nor told.
func TestNothingIsDoneThatNoSinkTakes(t *testing.T) {
	l := newSinks(2)
	v := open(t, l)
	play(t, v, put("adm", "a", "1"), ok+"\x01", grant("adm", "joe", "", 7), ok)
	for i, request := range []string{put("adm", "a", "2"), put("adm", "b", "2"), get("adm", "a", 0), drop("adm", "a"), list("adm", ""), grant("adm", "eve", "", 7), revoke("adm", "joe"), "x", list("eve", ""), put("eve", "a", "")} {
		for _, s := range l {
			s.Fail([]int{1, 2})
		}
		play(t, v, request, audit, request, audit)
		countIs(t, v, l, 2+5*i)
		play(t, v, get("adm", "a", 0), ok+text("1"), get("adm", "a", 2), none, list("adm", ""), ok+"\x01"+text("a"), list("joe", "b"), ok+"\x00", list("eve", ""), unknown)
	}
	play(t, v, put("adm", "a", "2"), ok+"\x02", put("adm", "b", "2"), ok+"\x01", grant("adm", "eve", "", 7), ok)
}

// Of the same requests to vaults with other keys, answers are the same and entries differ in their tags.
func TestKeyIsInTheTags(t *testing.T) {
	var logs []string
	for _, key := range []string{"", "k", "K", strings.Repeat("k", 65)} {
		l := newSinks(1)
		v, _ := bailey.Open(disk.New(), l, key, "adm")
		play(t, v, put("adm", "a", "secret"), ok+"\x01", get("adm", "a", 0), ok+text("secret"))
		countIs(t, v, l, 2)
		log := l[0].Read()
		if slices.Contains(logs, log) || strings.Contains(log, "secret") || strings.Contains(log, "adm") {
			t.Errorf("P9: the log under the key %q", key)
		}
		logs = append(logs, log)
	}
}

// The list is the caller's: its spare room is not written into, and what is put there later does not count.
func TestSinksAreKeptNotTheirList(t *testing.T) {
	l := newSinks(4)
	whole := slices.Clone(l)
	v := open(t, whole[:2])
	other := sink.New()
	whole[0], whole[1] = other, nil
	play(t, v, put("adm", "a", "1"), ok+"\x01")
	countIs(t, v, l[:2], 1)
	if other.Read() != "" || l[2].Read() != "" || l[3].Read() != "" || whole[0] != other || whole[1] != nil || whole[2] != l[2] || whole[3] != l[3] {
		t.Errorf("P2: the list that was handed in is kept, or written into")
	}
}

func TestVaultsBesideEachOther(t *testing.T) {
	l, m := newSinks(1), newSinks(1)
	v, w := open(t, l), open(t, m)
	play(t, v, put("adm", "a", "1"), ok+"\x01", grant("adm", "joe", "", 7), ok)
	play(t, w, get("adm", "a", 0), none, get("joe", "a", 0), unknown, put("adm", "a", "2"), ok+"\x01")
	play(t, v, get("joe", "a", 0), ok+text("1"))
	countIs(t, v, l, 3)
	countIs(t, w, m, 3)
}
