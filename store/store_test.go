package store

import (
	"strings"
	"testing"

	"bailey/api"
	"bailey/requests"
)

// try asks for one request and tells its answer; it is carried out.
func try(t *testing.T, s *Store, request string) string {
	t.Helper()
	q, ok := requests.Read(request)
	if !ok {
		t.Fatalf("%q is no request", request)
	}
	o := s.Ask(q)
	o.Carry()
	return o.Answer()
}

// expect: requests and their answers, by turns.
func expect(t *testing.T, s *Store, l ...string) {
	t.Helper()
	for i := 0; i+1 < len(l); i += 2 {
		if a := try(t, s, l[i]); a != l[i+1] {
			t.Fatalf("P7: %q is answered by %q, want %q", l[i], a, l[i+1])
		}
	}
}

// What was not carried out leaves nothing behind.
func TestAskChangesNothing(t *testing.T) {
	s := New("adm")
	expect(t, s, "P\x03adm\x01a\x011", "\x00\x01", "T\x03adm\x03joe\x00\x01", "\x00")
	for _, request := range []string{"P\x03adm\x01a\x012", "P\x03adm\x01b\x011", "D\x03adm\x01a", "T\x03adm\x03eve\x00\x07", "R\x03adm\x03joe"} {
		q, _ := requests.Read(request)
		if o := s.Ask(q); o.Error != api.OK || o.Answer() != s.Ask(q).Answer() {
			t.Errorf("P9: %q asked twice", request)
		}
		expect(t, s,
			"G\x03adm\x01a\x00", "\x00\x011", "G\x03adm\x01a\x02", "\x04", "L\x03adm\x00", "\x00\x01\x01a",
			"G\x03joe\x01a\x01", "\x00\x011", "G\x03eve\x01a\x00", "\x02")
		if len(s.paths) != 1 || s.paths["a"].next != 2 {
			t.Errorf("P9: %q, not carried out, left %d paths", request, len(s.paths))
		}
	}
}

// A request that is refused, or only reads, leaves nothing behind either; above all it makes no path.
func TestNoPathButByPut(t *testing.T) {
	s := New("adm")
	expect(t, s, "G\x03adm\x01a\x00", "\x04", "D\x03adm\x01a", "\x04", "L\x03adm\x01a", "\x00\x00", "P\x03eve\x01a\x00", "\x02", "T\x03adm\x01r\x00\x01", "\x00", "P\x01r\x01a\x00", "\x03")
	if len(s.paths) != 0 {
		t.Errorf("P7: there are %d paths, want none", len(s.paths))
	}
}

// The root may have any name, and is the one that stays.
func TestRoot(t *testing.T) {
	s := New("joe")
	expect(t, s, "R\x03joe\x03joe", "\x03", "R\x03adm\x03joe", "\x02", "T\x03joe\x03adm\x00\x07", "\x00", "R\x03adm\x03joe", "\x03", "R\x03joe\x03adm", "\x00", "R\x03joe\x03adm", "\x04", "L\x03joe\x00", "\x00\x00")
}

// The rights of a token one by one: each lets what it is for, and nothing else.
func TestRights(t *testing.T) {
	of := map[string]byte{"P\x01x\x01b\x00": api.Write, "G\x01x\x01a\x00": api.Read, "D\x01x\x01b": api.Write, "L\x01x\x00": api.Read, "T\x01x\x01y\x00\x01": api.Admin, "R\x01x\x01z": api.Admin}
	for rights := byte(1); rights <= 7; rights++ {
		for request, right := range of {
			s := New("adm")
			expect(t, s, "P\x03adm\x01a\x00", "\x00\x01", "P\x03adm\x01b\x00", "\x00\x01", "T\x03adm\x01z\x00\x01", "\x00", "T\x03adm\x01x\x00"+string([]byte{rights}), "\x00")
			want := byte(api.ErrDenied)
			if rights&right != 0 {
				want = byte(api.OK)
			}
			if a := try(t, s, request); a[0] != want {
				t.Errorf("P7: %q with rights %d: %d, want %d", request, rights, a[0], want)
			}
		}
	}
}

// The prefix of a token counts for P, G, D and L, and not for T and R.
func TestPrefix(t *testing.T) {
	s := New("adm")
	expect(t, s, "P\x03adm\x02ab\x011", "\x00\x01", "P\x03adm\x01a\x012", "\x00\x01", "T\x03adm\x01x\x02ab\x07", "\x00",
		"G\x01x\x02ab\x00", "\x00\x011", "G\x01x\x01a\x00", "\x03", "G\x01x\x03abc\x00", "\x04", "G\x01x\x02ba\x00", "\x03", "G\x01x\x03xab\x00", "\x03",
		"P\x01x\x01a\x00", "\x03", "P\x01x\x03abc\x013", "\x00\x01", "D\x01x\x01a", "\x03", "D\x01x\x02ab", "\x00",
		"L\x01x\x00", "\x03", "L\x01x\x01a", "\x03", "L\x01x\x02ab", "\x00\x01\x03abc", "L\x01x\x03abc", "\x00\x01\x03abc",
		"T\x01x\x01y\x00\x07", "\x00", "R\x01x\x01y", "\x00")
}

// The errors are asked for in the document's order.
func TestOrderOfErrors(t *testing.T) {
	s := New("adm")
	for i := range api.MaxPaths {
		expect(t, s, "P\x03adm\x01"+string([]byte{'a' + byte(i)})+"\x00", "\x00\x01")
	}
	expect(t, s, "T\x03adm\x01r\x01b\x01", "\x00", "T\x03adm\x01w\x01b\x02", "\x00")
	for i := range api.MaxTokens - 3 {
		expect(t, s, "T\x03adm\x01"+string([]byte{'1' + byte(i)})+"\x00\x04", "\x00")
	}
	expect(t, s,
		"P\x03eve\x01z\x00", "\x02", "P\x01r\x01z\x00", "\x03", "P\x01w\x01z\x00", "\x03", "P\x01w\x02bz\x00", "\x05", "P\x03adm\x01z\x00", "\x05",
		"G\x03eve\x01z\x00", "\x02", "G\x01r\x01z\x00", "\x03", "G\x01r\x02bz\x00", "\x04",
		"D\x03eve\x01z", "\x02", "D\x01w\x01z", "\x03", "D\x01w\x02bz", "\x04",
		"T\x03eve\x01r\x00\x01", "\x02", "T\x01r\x01r\x00\x01", "\x03", "T\x03adm\x01r\x00\x01", "\x07", "T\x03adm\x03new\x00\x01", "\x05",
		"R\x03eve\x03adm", "\x02", "R\x01r\x03new", "\x03", "R\x03adm\x03new", "\x04", "R\x03adm\x03adm", "\x03")
}

// A path's numbers go on when its versions were taken away, up to the last one.
func TestLastVersion(t *testing.T) {
	s := New("adm")
	for i := byte(1); i <= api.MaxVersions; i++ {
		expect(t, s, "P\x03adm\x01a\x01v", "\x00"+string([]byte{i}))
		if i%3 == 0 {
			expect(t, s, "D\x03adm\x01a", "\x00", "D\x03adm\x01a", "\x04", "G\x03adm\x01a\x00", "\x04", "G\x03adm\x01a"+string([]byte{i}), "\x04", "L\x03adm\x00", "\x00\x00")
		}
	}
	expect(t, s, "P\x03adm\x01a\x00", "\x05", "G\x03adm\x01a\x00", "\x00\x01v", "G\x03adm\x01a\x14", "\x00\x01v", "G\x03adm\x01a\x13", "\x00\x01v", "G\x03adm\x01a\x12", "\x04", "G\x03adm\x01a\x15", "\x04", "D\x03adm\x01a", "\x00", "P\x03adm\x01a\x00", "\x05")
}

// Byte by byte: `/` stands ahead of digits, these ahead of letters, and a path ahead of what it begins.
func TestListRises(t *testing.T) {
	s := New("adm")
	for _, p := range []string{"b", "a/b", "a", "ab", "0", "/", "a/", "a0"} {
		expect(t, s, "P\x03adm"+string([]byte{byte(len(p))})+p+"\x00", "\x00\x01")
	}
	text := func(l ...string) string {
		out := string([]byte{0, byte(len(l))})
		for _, p := range l {
			out += string([]byte{byte(len(p))}) + p
		}
		return out
	}
	expect(t, s, "L\x03adm\x00", text("/", "0", "a", "a/", "a/b", "a0", "ab", "b"), "L\x03adm\x01a", text("a", "a/", "a/b", "a0", "ab"), "L\x03adm\x02a/", text("a/", "a/b"), "D\x03adm\x02a/", "\x00", "L\x03adm\x02a/", text("a/b"), "L\x03adm\x10"+strings.Repeat("z", 16), text())
}

// Only what changes something must be made safe.
func TestChanges(t *testing.T) {
	s := New("adm")
	expect(t, s, "P\x03adm\x01a\x01v", "\x00\x01", "T\x03adm\x03joe\x00\x01", "\x00")
	for request, want := range map[string]bool{
		"P\x03adm\x01a\x01v":      true,
		"P\x03joe\x01a\x01v":      false,
		"G\x03adm\x01a\x00":       false,
		"L\x03adm\x00":            false,
		"D\x03adm\x01a":           true,
		"D\x03adm\x01b":           false,
		"T\x03adm\x03eve\x00\x01": true,
		"T\x03adm\x03joe\x00\x01": false,
		"R\x03adm\x03joe":         true,
		"R\x03adm\x03adm":         false,
		"R\x03adm\x03eve":         false,
	} {
		q, ok := requests.Read(request)
		if got := s.Ask(q).Changes(); !ok || got != want {
			t.Errorf("P11: whether %q changes something: %v, want %v", request, got, want)
		}
	}
}
