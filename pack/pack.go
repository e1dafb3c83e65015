// Package pack: numbers and texts as bytes, as package scan reads them: see DOC.md, 'Errors'.
package pack

// Number writes a number in n bytes, the low one first; what is above is lost.
func Number(x uint64, n int) string {
	out := make([]byte, n)
	for i := range out {
		out[i] = byte(x >> (8 * i))
	}
	return string(out)
}

// Byte writes one byte.
func Byte(b byte) string { return string([]byte{b}) }

// Text writes a text of s, which has at most 255 bytes.
func Text(s string) string { return Byte(byte(len(s))) + s }
