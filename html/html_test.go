package html

import (
	"fmt"
	"slices"
	"strings"
	"testing"

	"prose/api"
)

// P12: each kind of event; the line feeds that are named, and no other.
func TestOne(t *testing.T) {
	for _, c := range []struct {
		event api.Event
		want  string
	}{
		{api.Event{Kind: api.Paragraph}, "<p>"},
		{api.Event{Kind: api.Paragraph, End: true}, "</p>\n"},
		{api.Event{Kind: api.Heading, Level: 1}, "<h1>"},
		{api.Event{Kind: api.Heading, Level: 1, End: true}, "</h1>\n"},
		{api.Event{Kind: api.Heading, Level: 2}, "<h2>"},
		{api.Event{Kind: api.Heading, Level: 2, End: true}, "</h2>\n"},
		{api.Event{Kind: api.Heading, Level: 3}, "<h3>"},
		{api.Event{Kind: api.Heading, Level: 3, End: true}, "</h3>\n"},
		{api.Event{Kind: api.Quote}, "<blockquote>\n"},
		{api.Event{Kind: api.Quote, End: true}, "</blockquote>\n"},
		{api.Event{Kind: api.List}, "<ul>\n"},
		{api.Event{Kind: api.List, End: true}, "</ul>\n"},
		{api.Event{Kind: api.Item}, "<li>\n"},
		{api.Event{Kind: api.Item, End: true}, "</li>\n"},
		{api.Event{Kind: api.Block}, "<pre><code>"},
		{api.Event{Kind: api.Block, End: true}, "</code></pre>\n"},
		{api.Event{Kind: api.Emphasis}, "<em>"},
		{api.Event{Kind: api.Emphasis, End: true}, "</em>"},
		{api.Event{Kind: api.Link, Text: "a\"&"}, "<a href=\"a%22&amp;\">"},
		{api.Event{Kind: api.Link}, "<a href=\"\">"},
		{api.Event{Kind: api.Link, End: true}, "</a>"},
		{api.Event{Kind: api.Text, Text: "a<\n"}, "a&lt;\n"},
		{api.Event{Kind: api.Code, Text: "a<"}, "<code>a&lt;</code>"},
		{api.Event{Kind: api.Code}, "<code></code>"},
		{api.Event{Kind: api.Soft}, "\n"},
		{api.Event{Kind: api.Hard}, "<br>\n"},
	} {
		if got := one(c.event); got != c.want {
			t.Errorf("one(%v) = %q, want %q", c.event, got, c.want)
		}
	}
}

// P12: in a text four signs are told otherwise, and no other.
func TestEscaped(t *testing.T) {
	for r := range rune(0x3000) {
		want := string(r)
		switch r {
		case '&':
			want = "&amp;"
		case '<':
			want = "&lt;"
		case '>':
			want = "&gt;"
		case '"':
			want = "&quot;"
		}
		if got := escaped("a" + string(r) + "😀"); got != "a"+want+"😀" {
			t.Errorf("escaped of %q = %q", r, got)
		}
	}
	if got, want := escaped("&&amp;<\"\">"), "&amp;&amp;amp;&lt;&quot;&quot;&gt;"; got != want {
		t.Errorf("escaped = %q, want %q", got, want)
	}
}

// P12: each byte that there is, where a link leads.
func TestAddress(t *testing.T) {
	const stay = "abcdefghijklmnopqrstuvwxyzABCDEFGHIJKLMNOPQRSTUVWXYZ0123456789-._~/?#=:+,;@!$'()*%"
	for i := range 256 {
		s := string([]byte{byte(i)})
		want := fmt.Sprintf("%%%02X", i)
		switch {
		case i == '&':
			want = "&amp;"
		case strings.Contains(stay, s):
			want = s
		}
		if got := address("a" + s + s); got != "a"+want+want {
			t.Errorf("address of byte %d = %q, want %q", i, got, want)
		}
	}
	if got, want := address("é€😀"), "%C3%A9%E2%82%AC%F0%9F%98%80"; got != want {
		t.Errorf("address = %q, want %q", got, want)
	}
}

// No event is asked for ahead of its piece, nor behind the one at which the caller stops.
func TestOfAsksForEventsInTurn(t *testing.T) {
	asked := 0
	events := func(yield func(api.Event) bool) {
		for asked < 5 {
			asked++
			if !yield(api.Event{Kind: api.Soft}) {
				return
			}
		}
	}
	told := 0
	for piece := range Of(events) {
		told++
		if piece != "\n" || asked != told {
			t.Errorf("piece %d is %q, with %d events asked for", told, piece, asked)
		}
		if told == 3 {
			break
		}
	}
	if asked != 3 {
		t.Errorf("%d events asked for, want 3", asked)
	}
}

func TestOfNothing(t *testing.T) {
	if got := slices.Collect(Of(slices.Values([]api.Event{}))); len(got) != 0 {
		t.Errorf("Of no events = %q", got)
	}
}
