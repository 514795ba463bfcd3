package html

import "strings"

const (
	// kept are the signs that stand as they are where a link leads, beside letters and digits.
	kept      = "-._~/?#=:+,;@!$'()*%"
	hexDigits = "0123456789ABCDEF"
	ampersand = "&amp;"
)

// escaped is a text of which nothing is taken as a tag or as the end of one.
func escaped(text string) string {
	var out strings.Builder
	for _, r := range text {
		switch r {
		case '&':
			out.WriteString(ampersand)
		case '<':
			out.WriteString("&lt;")
		case '>':
			out.WriteString("&gt;")
		case '"':
			out.WriteString("&quot;")
		default:
			out.WriteRune(r)
		}
	}
	return out.String()
}

// address is where a link leads, as it may stand between the quotation marks of a tag. It goes byte by byte: a rune of several bytes is told by each of them.
func address(leads string) string {
	var out strings.Builder
	for i := range len(leads) {
		b := leads[i]
		switch {
		case isKept(b):
			out.WriteByte(b)
		case b == '&':
			out.WriteString(ampersand)
		default:
			out.WriteByte('%')
			out.WriteByte(hexDigits[b>>4])
			out.WriteByte(hexDigits[b&15])
		}
	}
	return out.String()
}

func isKept(b byte) bool {
	return isLetter(b) || '0' <= b && b <= '9' || strings.IndexByte(kept, b) >= 0
}

func isLetter(b byte) bool {
	return 'a' <= b && b <= 'z' || 'A' <= b && b <= 'Z'
}
