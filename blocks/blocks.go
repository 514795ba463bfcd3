// Package blocks finds the blocks of texts.
package blocks

import (
	"strings"

	"prose/api"
	"prose/events"
)

// Each finds the blocks of a regular text, and hands each of their events to do, in order.
func Each(text string, do func(api.Event)) {
	each(lines(text), 0, do)
}

// each finds the blocks of some lines at a depth.
func each(l []string, depth int, do func(api.Event)) {
	for len(l) > 0 {
		l = first(l, depth, do)
	}
}

// first tells the block that the first line begins, and answers the lines behind it.
func first(l []string, depth int, do func(api.Event)) []string {
	if isBlank(l[0]) {
		return l[1:]
	}
	switch begins(l[0], depth) {
	case api.Block:
		return code(l, do)
	case api.Heading:
		return heading(l, do)
	case api.Quote:
		return quote(l, depth, do)
	case api.List:
		return list(l, depth, do)
	}
	return paragraph(l, depth, do)
}

// begins is what a line that is not blank begins at a depth: a paragraph, if nothing else.
func begins(line string, depth int) api.Kind {
	switch {
	case isFence(line):
		return api.Block
	case level(line) > 0:
		return api.Heading
	case depth < api.MaxDepth && isQuoted(line):
		return api.Quote
	case depth < api.MaxDepth && isItem(line):
		return api.List
	}
	return api.Paragraph
}

// withText tells something that has nothing but a text in it.
func withText(e api.Event, text string, do func(api.Event)) {
	events.Within(e, do, func() { events.Text(text, do) })
}

func code(l []string, do func(api.Event)) []string {
	l = l[1:]
	n := 0
	var text strings.Builder
	for n < len(l) && !isFenceEnd(l[n]) {
		text.WriteString(l[n])
		text.WriteByte('\n')
		n++
	}
	withText(api.Event{Kind: api.Block}, text.String(), do)
	// A block without an end has no line to pass over.
	return l[min(n+1, len(l)):]
}

func heading(l []string, do func(api.Event)) []string {
	n := level(l[0])
	withText(api.Event{Kind: api.Heading, Level: n}, trim(l[0][n:]), do)
	return l[1:]
}

func quote(l []string, depth int, do func(api.Event)) []string {
	var inside []string
	for len(l) > 0 && isQuoted(l[0]) {
		inside = append(inside, unquoted(l[0]))
		l = l[1:]
	}
	events.Within(api.Event{Kind: api.Quote}, do, func() { each(inside, depth+1, do) })
	return l
}

func list(l []string, depth int, do func(api.Event)) []string {
	events.Within(api.Event{Kind: api.List}, do, func() {
		for len(l) > 0 && isItem(l[0]) {
			var inside []string
			inside, l = item(l)
			events.Within(api.Event{Kind: api.Item}, do, func() { each(inside, depth+1, do) })
			// Whether the list goes on or not, these are no block's lines.
			l = l[blanks(l):]
		}
	})
	return l
}

// item is what stands in the item that the first line begins, and the lines behind it.
func item(l []string) (inside, behind []string) {
	inside = append(inside, unmarked(l[0]))
	l = l[1:]
	for {
		n := blanks(l)
		if n == len(l) || !isIndented(l[n]) {
			return inside, l
		}
		for range n {
			inside = append(inside, "")
		}
		inside = append(inside, unindented(l[n]))
		l = l[n+1:]
	}
}

func paragraph(l []string, depth int, do func(api.Event)) []string {
	var leaf []string
	for len(l) > 0 && !isBlank(l[0]) && begins(l[0], depth) == api.Paragraph {
		leaf = append(leaf, trim(l[0]))
		l = l[1:]
	}
	withText(api.Event{Kind: api.Paragraph}, strings.Join(leaf, "\n"), do)
	return l
}
