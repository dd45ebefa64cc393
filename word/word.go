// Package word is layer 2: see shared/doc/02-word.md.
package word

import (
	"strings"
	"unicode/utf8"

	"switchboard/api"
	"switchboard/octet"
)

// Sign: the sign at the beginning of a text, and how many bytes it has; 0: there is none.
func Sign(s string) (rune, int) {
	v, n := utf8.DecodeRuneInString(s)
	// RuneError is a sign too, of three bytes; only a shorter one tells that there is none.
	if v == utf8.RuneError && n <= 1 {
		return 0, 0
	}
	return v, n
}

// Good: may a text be a string of a packet: signs alone, none of them 0, not too long?
func Good(s string) bool {
	return len(s) <= api.MaxText && utf8.ValidString(s) && strings.IndexByte(s, 0) < 0
}

// Signs: how many signs a text has, as far as they go.
func Signs(s string) int {
	count := 0
	for _, n := Sign(s); n > 0; _, n = Sign(s) {
		s = s[n:]
		count++
	}
	return count
}

// Take: a string.
func Take(r *octet.In) string {
	s := r.Data()
	if !Good(s) {
		r.Fail(api.ErrForm)
		return ""
	}
	return s
}

// TakePair: two strings.
func TakePair(r *octet.In) (string, string) {
	first, second := Take(r), Take(r)
	if r.Err() != api.OK {
		return "", ""
	}
	return first, second
}
