// Package leaves finds what stands in leaves.
package leaves

import (
	"strings"

	"prose/api"
	"prose/events"
)

// Each finds what stands in a regular text, and hands each event to do, in order.
func Each(text string, do func(api.Event)) {
	tell, end := joined(do)
	part(text, false, tell)
	end()
}

// joined hands events on to do, and texts that stand together as one, which is known only when something else comes, or the end.
func joined(do func(api.Event)) (tell func(api.Event), end func()) {
	var together strings.Builder
	end = func() {
		events.Text(together.String(), do)
		together.Reset()
	}
	tell = func(e api.Event) {
		if e.Kind == api.Text {
			together.WriteString(e.Text)
			return
		}
		end()
		do(e)
	}
	return tell, end
}

// part tells what stands in a leaf, or within an emphasis or a link. It has nothing but its own text: partners are not looked for outside.
func part(s string, inEmphasis bool, do func(api.Event)) {
	for s != "" {
		s = s[first(s, inEmphasis, do):]
	}
}

// first tells what stands first, and answers how many bytes that took.
func first(s string, inEmphasis bool, do func(api.Event)) int {
	n := 0
	switch s[0] {
	case '\\':
		n = backslash(s, do)
	case '\n':
		n = lineFeed(do)
	case '`':
		n = code(s, do)
	case '[':
		n = link(s, inEmphasis, do)
	case '*':
		n = emphasis(s, inEmphasis, do)
	}
	if n == 0 {
		n = plainLength(s)
		events.Text(s[:n], do)
	}
	return n
}

// backslash, and code, link and emphasis below, answer 0 and tell nothing, if their sign is mere text.
func backslash(s string, do func(api.Event)) int {
	if strings.HasPrefix(s, hardBreak) {
		do(api.Event{Kind: api.Hard})
		return len(hardBreak)
	}
	n := escapeLength(s)
	if n > 0 {
		events.Text(s[1:n], do)
	}
	return n
}

func lineFeed(do func(api.Event)) int {
	do(api.Event{Kind: api.Soft})
	return 1
}

func code(s string, do func(api.Event)) int {
	n := codeLength(s)
	if n > 0 {
		do(api.Event{Kind: api.Code, Text: strings.ReplaceAll(s[1:n-1], "\n", " ")})
	}
	return n
}

func link(s string, inEmphasis bool, do func(api.Event)) int {
	inside, leads, ok := linkParts(s)
	if !ok {
		return 0
	}
	events.Within(api.Event{Kind: api.Link, Text: leads}, do, func() { part(inside, inEmphasis, do) })
	return len("[") + len(inside) + len("](") + len(leads) + len(")")
}

func emphasis(s string, inEmphasis bool, do func(api.Event)) int {
	if inEmphasis {
		return 0
	}
	n := partner(s)
	if n == 0 {
		return 0
	}
	events.Within(api.Event{Kind: api.Emphasis}, do, func() { part(s[1:n], true, do) })
	return n + 1
}
