package blocks

import "strings"

const (
	blankSigns = " \t"
	fenceMark  = "```"
	quoteMark  = ">"
	itemMark   = "-"
	indent     = "  "
	topLevel   = 3
)

// part is some lines that are looked at by themselves, at a depth.
type part struct {
	lines []string
	at    int // which line of the text the first one is
	depth int
}

// behind is what stands behind the first n lines.
func (p part) behind(n int) part { return part{p.lines[n:], p.at + n, p.depth} }

// within is what stands within the first lines: of each of them one, so that it is known where in the text they stand.
func (p part) within(inside []string) part { return part{inside, p.at, p.depth + 1} }

// span is where the first n lines stand in the text.
func (p part) span(n int) Span { return Span{p.at, p.at + n} }

// lines are the lines of a text, without their line feeds.
func lines(text string) []string {
	l := strings.Split(text, "\n")
	last := len(l) - 1
	// Behind the last line feed there is a line only if something stands there.
	if l[last] == "" {
		l = l[:last]
	}
	return l
}

// blanks is how many blank lines come first.
func blanks(l []string) int {
	n := 0
	for n < len(l) && isBlank(l[n]) {
		n++
	}
	return n
}

// trim takes the blanks off both ends.
func trim(line string) string { return strings.Trim(line, blankSigns) }

func isBlank(line string) bool { return trim(line) == "" }

// endsOrBlank tells whether what stands behind a mark sets it off.
func endsOrBlank(rest string) bool {
	return rest == "" || rest[0] == ' ' || rest[0] == '\t'
}

func isFence(line string) bool { return strings.HasPrefix(line, fenceMark) }

func isFenceEnd(line string) bool {
	rest, ok := strings.CutPrefix(line, fenceMark)
	return ok && isBlank(rest)
}

// level is the level of a heading; 0: the line is none.
func level(line string) int {
	rest := strings.TrimLeft(line, "#")
	n := len(line) - len(rest)
	if n > topLevel || !endsOrBlank(rest) {
		return 0
	}
	return n
}

func isQuoted(line string) bool { return strings.HasPrefix(line, quoteMark) }

// unquoted is what stands in a line of a quote.
func unquoted(line string) string {
	return strings.TrimPrefix(strings.TrimPrefix(line, quoteMark), " ")
}

func isItem(line string) bool {
	rest, ok := strings.CutPrefix(line, itemMark)
	return ok && endsOrBlank(rest)
}

// unmarked is what stands in an item line.
func unmarked(line string) string {
	rest := strings.TrimPrefix(line, itemMark)
	// One blank goes with the mark; the mark may stand alone.
	return rest[min(1, len(rest)):]
}

func isIndented(line string) bool { return strings.HasPrefix(line, indent) }

func unindented(line string) string { return strings.TrimPrefix(line, indent) }
