// Package names: what may be a path or a prefix: see DOC.md, 'Requests'.
package names

import "bailey/api"

// IsPath tells whether s is a path.
func IsPath(s string) bool {
	if len(s) < 1 || len(s) > api.MaxPath {
		return false
	}
	for i := range len(s) {
		if s[i] != '/' && !isLetterOrDigit(s[i]) {
			return false
		}
	}
	return true
}

// IsPrefix tells whether s is a prefix.
func IsPrefix(s string) bool { return s == "" || IsPath(s) }

func isLetterOrDigit(c byte) bool {
	return 'a' <= c && c <= 'z' || '0' <= c && c <= '9'
}
