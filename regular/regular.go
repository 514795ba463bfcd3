// Package regular makes texts regular.
package regular

import (
	"strings"
	"unicode/utf8"
)

// Text is the regular text of some bytes. They must be all there are: a rune, or a carriage return and its line feed, may have come in two pieces.
func Text(raw string) string {
	var out strings.Builder
	behindReturn := false
	// Ranging tells each byte that is no part of a rune as one U+FFFD, just as a regular text has it.
	for _, r := range raw {
		switch {
		case r == '\r':
			out.WriteByte('\n')
		case r == '\n' && behindReturn:
			// The carriage return ahead has ended this line already.
		case r == 0:
			out.WriteRune(utf8.RuneError)
		default:
			out.WriteRune(r)
		}
		behindReturn = r == '\r'
	}
	return out.String()
}
