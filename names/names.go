// Package names is layer 1: it checks names, rune by rune.
package names

import "waterline/api"

// Count tells how many runes s has; a byte that belongs to no rune counts as one, since range yields U+FFFD for it.
func Count(s string) int {
	n := 0
	for range s {
		n++
	}
	return n
}

// Valid tells whether s is a name. It leaves at the first rune that is too many, so that a long text costs no more than a name.
func Valid(s string) bool {
	n := 0
	for _, r := range s {
		if n == api.MaxName || !allowed(r) {
			return false
		}
		n++
	}
	return n > 0
}

// Clean makes the nearest name of s; nothing is left of a text without a single rune that may be in a name.
func Clean(s string) string {
	kept := make([]rune, 0, api.MaxName)
	for _, r := range s {
		if len(kept) == api.MaxName {
			break
		}
		if small := lower(r); allowed(small) {
			kept = append(kept, small)
		}
	}
	return string(kept)
}

// allowed tells whether r may be in a name. (Greek runes stand as numbers here: many look like Latin ones.)
func allowed(r rune) bool {
	return r >= 'a' && r <= 'z' || r >= '0' && r <= '9' || r >= '\u03b1' && r <= '\u03c9'
}

// lower makes a capital of the two alphabets small. U+03A2 is no letter: 32 further stands the final sigma, which has no capital of its own.
func lower(r rune) rune {
	latin := r >= 'A' && r <= 'Z'
	greek := r >= '\u0391' && r <= '\u03a9' && r != '\u03a2'
	if latin || greek {
		return r + 32
	}
	return r
}
