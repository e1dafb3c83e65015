package digest

import (
	"crypto/hmac"
	"crypto/sha256"
	"encoding/hex"
	"strings"
	"testing"

	"bailey/api"
)

// sample makes so many bytes, of all values.
func sample(size int) string {
	b := make([]byte, size)
	for i := range b {
		b[i] = byte(i*167 + i>>8*13 + size)
	}
	return string(b)
}

// libraryTag is the library's tag, which is made in the same way.
func libraryTag(key string, s string) api.Hash {
	m := hmac.New(sha256.New, []byte(key))
	m.Write([]byte(s))
	return api.Hash(m.Sum(nil))
}

func TestOfExamples(t *testing.T) {
	for s, want := range map[string]string{"": "e3b0c442", "abc": "ba7816bf"} {
		h := Of(s)
		if got := hex.EncodeToString(h[:4]); got != want {
			t.Errorf("P3: the digest of %q begins %s, want %s", s, got, want)
		}
	}
}

// All lengths around the ends of the first blocks: there the padding takes one block or two.
func TestOfEveryLength(t *testing.T) {
	for size := range 400 {
		s := sample(size)
		if got, want := Of(s), sha256.Sum256([]byte(s)); got != want {
			t.Fatalf("P3: the digest of %d bytes is %x, want %x", size, got, want)
		}
	}
}

// The number of bits takes up to four bytes here.
func TestOfLong(t *testing.T) {
	for _, size := range []int{8191, 8192, 65536, 1<<21 - 1, 1 << 21, 3<<20 + 55, 3<<20 + 56} {
		s := sample(size)
		if got, want := Of(s), sha256.Sum256([]byte(s)); got != want {
			t.Errorf("P3: the digest of %d bytes is %x, want %x", size, got, want)
		}
	}
}

// No text that can be handed in here has more than 2^32 bits, so the padding is asked for itself.
func TestPaddingOfVeryLong(t *testing.T) {
	p := padding(1<<40 + 3)
	if want := "\x80" + strings.Repeat("\x00", 52) + "\x00\x00\x08\x00\x00\x00\x00\x18"; p != want {
		t.Errorf("P3: the padding of 2^40 + 3 bytes is %x, want %x", p, want)
	}
}

func TestTagExample(t *testing.T) {
	h := Tag("Jefe", "what do ya want for nothing?")
	if got := hex.EncodeToString(h[:4]); got != "5bdcc146" {
		t.Errorf("P3: the tag begins %s, want 5bdcc146", got)
	}
}

// Keys around a block, of which those above it are taken by their digest.
func TestTagEveryKeyLength(t *testing.T) {
	for size := range 200 {
		key := sample(size)
		for _, s := range []string{"", "a", sample(63), sample(64), sample(200)} {
			if got, want := Tag(key, s), libraryTag(key, s); got != want {
				t.Fatalf("P3: the tag of %d bytes under a key of %d is %x, want %x", len(s), size, got, want)
			}
		}
	}
}
