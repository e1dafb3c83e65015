// Package names: what may be a name, a path or a prefix: see DOC.md, 'Requests'.
package names

import "bailey/api"

// IsName tells whether s is a name.
func IsName(s string) bool { return hasLength(s, api.MaxName) && isMadeOf(s, isLetterOrDigit) }

// IsPath tells whether s is a path.
func IsPath(s string) bool { return hasLength(s, api.MaxPath) && isMadeOf(s, isOfPath) }

// IsPrefix tells whether s is a prefix.
func IsPrefix(s string) bool { return s == "" || IsPath(s) }

func hasLength(s string, most int) bool { return 1 <= len(s) && len(s) <= most }

func isMadeOf(s string, right func(c byte) bool) bool {
	for i := range len(s) {
		if !right(s[i]) {
			return false
		}
	}
	return true
}

func isOfPath(c byte) bool { return c == '/' || isLetterOrDigit(c) }

func isLetterOrDigit(c byte) bool {
	return 'a' <= c && c <= 'z' || '0' <= c && c <= '9'
}
