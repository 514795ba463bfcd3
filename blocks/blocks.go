// Package blocks finds the blocks of texts.
package blocks

import (
	"strings"

	"prose/api"
	"prose/events"
)

// Span is where something stands in a text: its lines, from one on up to another that is not of them.
type Span struct{ From, To int }

// Each finds the blocks of a regular text, and hands each of their events to do, in order; but a leaf that is not empty it hands to leaf, in place of its text's event: what is to come of it, and when, is the caller's to say.
func Each(text string, do func(api.Event), leaf func(text string, at Span)) {
	f := finder{do, leaf}
	f.each(part{lines: lines(text)})
}

// finder hands on what it finds.
type finder struct {
	do   func(api.Event)
	leaf func(text string, at Span)
}

// each finds the blocks of a part.
func (f finder) each(p part) {
	for len(p.lines) > 0 {
		p = p.behind(f.first(p))
	}
}

// first tells the block that the first line begins, and answers how many lines it takes.
func (f finder) first(p part) int {
	if isBlank(p.lines[0]) {
		return 1
	}
	switch begins(p.lines[0], p.depth) {
	case api.Block:
		return f.code(p)
	case api.Heading:
		return f.heading(p)
	case api.Quote:
		return f.quote(p)
	case api.List:
		return f.list(p)
	}
	return f.paragraph(p)
}

// begins is what a line that is not blank begins at a depth: a paragraph, if nothing else.
func begins(line string, depth int) api.Kind {
	switch {
	case isFence(line):
		return api.Block
	case level(line) > 0:
		return api.Heading
	case depth < api.MaxDepth && isQuoted(line):
		return api.Quote
	case depth < api.MaxDepth && isItem(line):
		return api.List
	}
	return api.Paragraph
}

// withBlocks tells something that has blocks in it.
func (f finder) withBlocks(k api.Kind, inside part) {
	events.Within(api.Event{Kind: k}, f.do, func() { f.each(inside) })
}

// withLeaf tells something that has a leaf in it.
func (f finder) withLeaf(e api.Event, leaf string, at Span) {
	events.Within(e, f.do, func() {
		if leaf != "" {
			f.leaf(leaf, at)
		}
	})
}

func (f finder) code(p part) int {
	n := 1
	var text strings.Builder
	for n < len(p.lines) && !isFenceEnd(p.lines[n]) {
		text.WriteString(p.lines[n])
		text.WriteByte('\n')
		n++
	}
	events.Within(api.Event{Kind: api.Block}, f.do, func() { events.Text(text.String(), f.do) })
	// A block without an end has no line to pass over.
	return min(n+1, len(p.lines))
}

func (f finder) heading(p part) int {
	n := level(p.lines[0])
	f.withLeaf(api.Event{Kind: api.Heading, Level: n}, trim(p.lines[0][n:]), p.span(1))
	return 1
}

func (f finder) quote(p part) int {
	var inside []string
	for _, line := range p.lines {
		if !isQuoted(line) {
			break
		}
		inside = append(inside, unquoted(line))
	}
	f.withBlocks(api.Quote, p.within(inside))
	return len(inside)
}

func (f finder) list(p part) int {
	all := len(p.lines)
	events.Within(api.Event{Kind: api.List}, f.do, func() {
		for len(p.lines) > 0 && isItem(p.lines[0]) {
			inside := item(p.lines)
			f.withBlocks(api.Item, p.within(inside))
			p = p.behind(len(inside))
			// Whether the list goes on or not, these are no block's lines.
			p = p.behind(blanks(p.lines))
		}
	})
	return all - len(p.lines)
}

// item is what stands in the item that the first line begins: of each of its lines one.
func item(l []string) []string {
	inside := []string{unmarked(l[0])}
	for {
		rest := l[len(inside):]
		n := blanks(rest)
		if n == len(rest) || !isIndented(rest[n]) {
			return inside
		}
		for range n {
			inside = append(inside, "")
		}
		inside = append(inside, unindented(rest[n]))
	}
}

func (f finder) paragraph(p part) int {
	var leaf []string
	for _, line := range p.lines {
		if isBlank(line) || begins(line, p.depth) != api.Paragraph {
			break
		}
		leaf = append(leaf, trim(line))
	}
	f.withLeaf(api.Event{Kind: api.Paragraph}, strings.Join(leaf, "\n"), p.span(len(leaf)))
	return len(leaf)
}
