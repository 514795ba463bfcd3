package leaves

import "strings"

const (
	// signs are those that a backslash makes text.
	signs = "!\"#$%&'()*+,-./:;<=>?@[\\]^_`{|}~"
	// marks are those that may be more than text.
	marks     = "\\\n`[*"
	hardBreak = "\\\n"
	// gaps do not stand at the ends of an emphasis, nor where a link leads.
	gaps = " \t\n"
)

// plainLength is how long the text at the beginning is: its first byte, whatever that is, and what stands behind it up to the next mark.
func plainLength(s string) int {
	n := strings.IndexAny(s[1:], marks)
	if n < 0 {
		return len(s)
	}
	return 1 + n
}

// escapeLength is how long the backslash at the beginning and the sign that it makes text are; 0: it makes none.
func escapeLength(s string) int {
	if len(s) > 1 && strings.IndexByte(signs, s[1]) >= 0 {
		return 2
	}
	return 0
}

// codeLength is how long the code at the beginning is, with both of its backticks; 0: there is no other one.
func codeLength(s string) int {
	n := strings.IndexByte(s[1:], '`')
	if n < 0 {
		return 0
	}
	return 1 + n + 1
}

// linkParts are what stands between the brackets of the link at the beginning, and where it leads; not ok: there is no link.
func linkParts(s string) (inside, leads string, ok bool) {
	s = s[1:]
	n := strings.IndexAny(s, "[]")
	if n < 0 || !strings.HasPrefix(s[n:], "](") {
		return "", "", false
	}
	inside, s = s[:n], s[n+len("]("):]
	n = strings.IndexAny(s, "()"+gaps)
	if n < 0 || s[n] != ')' {
		return "", "", false
	}
	return inside, s[:n], true
}

// partner is where the partner of the star at the beginning is; 0: it has none.
func partner(s string) int {
	n := 1
	for n < len(s) && s[n] != '*' {
		n += passed(s[n:])
	}
	if n == 1 || n == len(s) || isGap(s[1]) || isGap(s[n-1]) {
		return 0
	}
	return n
}

// passed is how many bytes are passed over at once on the way to a partner.
func passed(s string) int {
	switch s[0] {
	case '\\':
		return max(1, escapeLength(s))
	case '`':
		return max(1, codeLength(s))
	}
	return 1
}

func isGap(b byte) bool { return strings.IndexByte(gaps, b) >= 0 }
