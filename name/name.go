// Package name is layer 1: names, reserved words and local names.
package name

import (
	"strconv"
	"strings"
	"unicode/utf8"
)

// Classes of bytes.
const (
	other      = 0
	letter     = 1
	digit      = 2
	underscore = 3
	blank      = 4
)

// sigil begins a local name. It is in no name, so the two never clash.
const sigil = "$"

// maxIndex is the greatest index that Index reads.
const maxIndex = 1<<31 - 1

var reserved = [...]string{"package", "main", "type", "struct", "interface", "func", "return"}

// Class returns 1 for a letter, 2 for a digit, 3 for an underscore, 4 for a
// blank and 0 for any other byte.
func Class(c byte) int {
	switch {
	case 'A' <= c && c <= 'Z', 'a' <= c && c <= 'z':
		return letter
	case '0' <= c && c <= '9':
		return digit
	case c == '_':
		return underscore
	case c == '\t', c == '\n', c == '\r', c == ' ':
		return blank
	}
	return other
}

// Reserved reports whether s is a reserved word.
func Reserved(s string) bool {
	for _, word := range reserved {
		if s == word {
			return true
		}
	}
	return false
}

// Is reports whether s is a name.
func Is(s string) bool {
	if s == "" || Class(s[0]) != letter || Reserved(s) {
		return false
	}
	wrong := func(r rune) bool {
		// Beyond ASCII, the low byte of a rune may be that of a letter; a
		// byte that is no UTF-8 comes as a rune of that range too.
		return r >= utf8.RuneSelf || !within(byte(r))
	}
	return strings.IndexFunc(s, wrong) < 0
}

// within reports whether c may stand in a name after its first byte.
func within(c byte) bool {
	class := Class(c)
	return class == letter || class == digit || class == underscore
}

// Local returns the local name with the index i; "", if i is negative.
func Local(i int) string {
	if i < 0 {
		return ""
	}
	return sigil + strconv.Itoa(i)
}

// Index returns the index of the local name s, and true; or 0 and false, if s
// is none or its index is greater than 2^31 - 1.
func Index(s string) (int, bool) {
	digits, found := strings.CutPrefix(s, sigil)
	if !found {
		return 0, false
	}
	i, err := strconv.Atoi(digits)
	// Atoi also reads signs and leading zeros, which no local name has.
	if err != nil || i > maxIndex || Local(i) != s {
		return 0, false
	}
	return i, true
}

// Compare returns -1, 0 or 1 by the order of strings, byte by byte.
func Compare(a, b string) int {
	return strings.Compare(a, b)
}
