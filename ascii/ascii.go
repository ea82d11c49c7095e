// Package ascii is layer 1: letters, and what stands between. See doc/01-ascii.md.
package ascii

import "strings"

const (
	blanks     = " \t"
	tokenSigns = "!#$%&'*+-.^_|~`"
	// mostDigits keeps every number that is told far below where an int wraps round.
	mostDigits = 18
)

// Lower: letters from A to Z as small ones. (P1.1)
func Lower(s string) string { return changed(s, moved('A', 'Z', 'a')) }

// Same: but for great and small letters. (P1.1)
func Same(a, b string) bool { return Lower(a) == Lower(b) }

// Token: may a text be a name of a field? (P1.2)
func Token(s string) bool {
	allowed := tokenBytes()
	return len(s) > 0 && every(s, func(c byte) bool { return allowed[c] })
}

// Trim: without blanks at its ends. (P1.3)
func Trim(s string) string { return strings.Trim(s, blanks) }

// Split: at a byte, each part without blanks at its ends. (P1.3)
func Split(s string, at byte) []string {
	// string(at) would be two bytes for a byte above 127.
	parts := strings.Split(s, string([]byte{at}))
	for i, part := range parts {
		parts[i] = Trim(part)
	}
	return parts
}

// Number: digits alone; false: it is none, or above most. (P1.4)
func Number(s string, most int) (int, bool) {
	if len(s) == 0 || len(s) > mostDigits || !every(s, within('0', '9')) {
		return 0, false
	}
	n := 0
	for i := range len(s) {
		n = n*10 + int(s[i]-'0')
	}
	if n > most {
		return 0, false
	}
	return n, true
}

// changed goes by bytes, not runes, so that bytes which are no letters stay even where they are no UTF-8.
func changed(s string, change func(byte) byte) string {
	b := []byte(s)
	for i, c := range b {
		b[i] = change(c)
	}
	return string(b)
}

func every(s string, holds func(byte) bool) bool {
	for i := range len(s) {
		if !holds(s[i]) {
			return false
		}
	}
	return true
}

func within(first, last byte) func(byte) bool {
	return func(c byte) bool { return first <= c && c <= last }
}

// moved lays the bytes from first to last onto those that begin at target, in order, and leaves all others.
func moved(first, last, target byte) func(byte) byte {
	inside := within(first, last)
	return func(c byte) byte {
		if inside(c) {
			return c - first + target
		}
		return c
	}
}

// tokenBytes is made anew for each call, as a table of 256 is too long for package level.
func tokenBytes() [256]bool {
	var allowed [256]bool
	for i := range len(tokenSigns) {
		allowed[tokenSigns[i]] = true
	}
	for i := range 26 {
		allowed['A'+i], allowed['a'+i] = true, true
	}
	for i := range 10 {
		allowed['0'+i] = true
	}
	return allowed
}
