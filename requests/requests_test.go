package requests

import (
	"strings"
	"testing"
)

func TestRead(t *testing.T) {
	for s, want := range map[string]Request{
		"P\x03adm\x03a/b\x03one":    {Op: 'P', Token: "adm", Path: "a/b", Rest: "\x03one", Value: "one"},
		"P\x01a\x01/\x00":           {Op: 'P', Token: "a", Path: "/", Rest: "\x00"},
		"P\x01a\x01b\x02\xff\x00":   {Op: 'P', Token: "a", Path: "b", Rest: "\x02\xff\x00", Value: "\xff\x00"},
		"G\x03adm\x03a/b\x00":       {Op: 'G', Token: "adm", Path: "a/b", Rest: "\x00"},
		"G\x03adm\x03a/b\xff":       {Op: 'G', Token: "adm", Path: "a/b", Rest: "\xff", Version: 255},
		"D\x0812345678\x01a":        {Op: 'D', Token: "12345678", Path: "a"},
		"L\x03adm\x00":              {Op: 'L', Token: "adm"},
		"L\x03adm\x02a/":            {Op: 'L', Token: "adm", Path: "a/"},
		"T\x03adm\x03joe\x02a/\x01": {Op: 'T', Token: "adm", Rest: "\x03joe\x02a/\x01", Name: "joe", Prefix: "a/", Rights: 1},
		"T\x03adm\x03joe\x00\x07":   {Op: 'T', Token: "adm", Rest: "\x03joe\x00\x07", Name: "joe", Rights: 7},
		"R\x03adm\x03joe":           {Op: 'R', Token: "adm", Rest: "\x03joe", Name: "joe"},
	} {
		if q, ok := Read(s); !ok || q != want {
			t.Errorf("Read(%q) = %+v, %v, want %+v", s, q, ok, want)
		}
		wrongEnds(t, s)
	}
}

// wrongEnds: where a request ends too early, or has more behind it, it is none.
func wrongEnds(t *testing.T, s string) {
	t.Helper()
	for n := range len(s) {
		refuses(t, s[:n])
	}
	refuses(t, s+"\x00")
	refuses(t, s+s)
}

func refuses(t *testing.T, s string) {
	t.Helper()
	if q, ok := Read(s); ok || q != (Request{}) {
		t.Errorf("P7: Read(%q) = %+v, %v, want that it is none", s, q, ok)
	}
}

func TestOps(t *testing.T) {
	for op := range 256 {
		if strings.Contains("PGDLTR", string([]byte{byte(op)})) {
			continue
		}
		for _, more := range []string{"", "\x01a", "\x01a\x00", "\x01a\x01a", "\x01a\x01a\x00", "\x01a\x01a\x01a", "\x01a\x01a\x00\x01"} {
			refuses(t, string([]byte{byte(op)})+more)
		}
	}
}

// What the table asks of each piece, at its edges.
func TestPieces(t *testing.T) {
	value40, value41 := "\x28"+strings.Repeat("v", 40), "\x29"+strings.Repeat("v", 41)
	path16, path17 := "\x100123456789abcde/", "\x110123456789abcdef/"
	for _, s := range []string{"P\x01a" + path16 + value40, "G\x01a" + path16 + "\x15", "D\x01a" + path16, "L\x01a" + path16, "T\x01a\x08abcdefgh" + path16 + "\x04", "R\x01a\x08abcdefgh"} {
		if _, ok := Read(s); !ok {
			t.Errorf("P7: %q is a request", s)
		}
	}
	for _, s := range []string{
		"P\x01a\x01a" + value41, "P\x01a" + path17 + "\x00", "P\x01a\x00\x00", "P\x01a\x01A\x00",
		"G\x01a" + path17 + "\x00", "G\x01a\x00\x00", "G\x01a\x01 \x00",
		"D\x01a" + path17, "D\x01a\x00", "D\x01a\x01_",
		"L\x01a" + path17, "L\x01a\x01\x00", "L\x01a\x01Z",
		"T\x01a\x00\x00\x01", "T\x01a\x09abcdefghi\x00\x01", "T\x01a\x02a/\x00\x01", "T\x01a\x01b" + path17 + "\x01", "T\x01a\x01b\x01B\x01", "T\x01a\x01b\x00\x00", "T\x01a\x01b\x00\x08", "T\x01a\x01b\x00\xff",
		"R\x01a\x00", "R\x01a\x09abcdefghi", "R\x01a\x01/",
		strings.Repeat("P", 100000),
	} {
		refuses(t, s)
	}
	for _, token := range []string{"\x00", "\x09abcdefghi", "\x01A", "\x01/", "\x02a ", "\xffa"} {
		for _, s := range []string{"P" + token + "\x01a\x00", "G" + token + "\x01a\x00", "D" + token + "\x01a", "L" + token + "\x00", "T" + token + "\x01b\x00\x01", "R" + token + "\x01b"} {
			refuses(t, s)
		}
	}
}
