// Package html tells events as HTML.
package html

import (
	"iter"
	"strconv"

	"prose/api"
)

// Of is the HTML of events, piece by piece: no event is asked for ahead of its piece.
func Of(events iter.Seq[api.Event]) iter.Seq[string] {
	return func(yield func(string) bool) {
		for e := range events {
			if !yield(one(e)) {
				return
			}
		}
	}
}

// one is the HTML of one event.
func one(e api.Event) string {
	switch e.Kind {
	case api.Text:
		return escaped(e.Text)
	case api.Code:
		return "<code>" + escaped(e.Text) + "</code>"
	case api.Soft:
		return "\n"
	case api.Hard:
		return "<br>\n"
	}
	begin, end := tags(e)
	if e.End {
		return end
	}
	return begin
}

// tags are what stands around the things that have an end, with the line feeds that go with them.
func tags(e api.Event) (begin, end string) {
	switch e.Kind {
	case api.Heading:
		name := "h" + strconv.Itoa(e.Level)
		return "<" + name + ">", "</" + name + ">\n"
	case api.Quote:
		return "<blockquote>\n", "</blockquote>\n"
	case api.List:
		return "<ul>\n", "</ul>\n"
	case api.Item:
		return "<li>\n", "</li>\n"
	case api.Block:
		return "<pre><code>", "</code></pre>\n"
	case api.Emphasis:
		return "<em>", "</em>"
	case api.Link:
		return "<a href=\"" + address(e.Text) + "\">", "</a>"
	}
	return "<p>", "</p>\n"
}
