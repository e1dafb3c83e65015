package names

import "testing"

func TestPaths(t *testing.T) {
	for _, s := range []string{"a", "z", "0", "9", "/", "a/b", "//", "/a/", "0123456789abcdef", "ghijklmnopqrstuv"} {
		if !IsPath(s) || !IsPrefix(s) {
			t.Errorf("%q is a path", s)
		}
	}
	for _, s := range []string{"0123456789abcdefg", "A", "Z", "a b", " ", "a-b", "a_b", "a.b", "\x00", "a\x00", "`", "{", ":", "é", "\xff", "a\n"} {
		if IsPath(s) || IsPrefix(s) {
			t.Errorf("%q is no path", s)
		}
	}
	if IsPath("") || !IsPrefix("") {
		t.Errorf("the empty string is a prefix, and no path")
	}
}

// Of all bytes these are right, and no others.
func TestBytesOfPaths(t *testing.T) {
	right := map[byte]int{}
	for _, c := range []byte("abcdefghijklmnopqrstuvwxyz0123456789/") {
		right[c] = 1
	}
	for c := range 256 {
		if got := IsPath(string([]byte{'a', byte(c)})); got != (right[byte(c)] == 1) {
			t.Errorf("byte %d in a path: %v", c, got)
		}
	}
}
