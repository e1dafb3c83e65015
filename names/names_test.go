package names

import (
	"strings"
	"testing"
)

func TestPaths(t *testing.T) {
	for _, s := range []string{"a", "z", "0", "9", "/", "a/b", "//", "/a/", "0123456789abcdef", "ghijklmnopqrstuv"} {
		if !IsPath(s) || !IsPrefix(s) {
			t.Errorf("%q is a path", s)
		}
	}
	for _, s := range []string{"0123456789abcdefg", "A", "Z", "a b", " ", "a-b", "a_b", "a.b", "\x00", "a\x00", "`", "{", ":", "é", "\xff", "a\n"} {
		if IsPath(s) || IsPrefix(s) {
			t.Errorf("%q is no path", s)
		}
	}
	if IsPath("") || !IsPrefix("") {
		t.Errorf("the empty string is a prefix, and no path")
	}
}

func TestNames(t *testing.T) {
	for _, s := range []string{"a", "z", "0", "9", "adm", "12345678", "abcdefgh"} {
		if !IsName(s) {
			t.Errorf("%q is a name", s)
		}
	}
	for _, s := range []string{"", "123456789", "a/", "/", "Adm", "a b", "a\x00", "é", "\xff"} {
		if IsName(s) {
			t.Errorf("%q is no name", s)
		}
	}
}

// Of all bytes these are right, and no others.
func TestBytesOfNamesAndPaths(t *testing.T) {
	const ofNames = "abcdefghijklmnopqrstuvwxyz0123456789"
	for c := range 256 {
		s := string([]byte{byte(c)})
		inName := strings.Contains(ofNames, s)
		if got := IsName("a" + s); got != inName {
			t.Errorf("byte %d in a name: %v", c, got)
		}
		if got := IsPath("a" + s); got != (inName || s == "/") {
			t.Errorf("byte %d in a path: %v", c, got)
		}
	}
}
