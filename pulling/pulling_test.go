package pulling

import (
	"slices"
	"testing"

	"prose/api"
	"prose/blocks"
)

// known are the spans of the leaves that were looked into, in order.
func known(e Events) []blocks.Span {
	var out []blocks.Span
	for at := range e.inside {
		out = append(out, at)
	}
	slices.SortFunc(out, func(a, b blocks.Span) int { return a.From - b.From })
	return out
}

func TestNextTellsAllEvents(t *testing.T) {
	e := Of("# *a*\n```\n*b*\n")
	var got []api.Event
	for {
		next, ok := e.Next()
		if !ok {
			break
		}
		got = append(got, next)
	}
	want := []api.Event{
		{Kind: api.Heading, Level: 1}, {Kind: api.Emphasis}, {Kind: api.Text, Text: "a"}, {Kind: api.Emphasis, End: true}, {Kind: api.Heading, Level: 1, End: true},
		{Kind: api.Block}, {Kind: api.Text, Text: "*b*\n"}, {Kind: api.Block, End: true},
	}
	if !slices.Equal(got, want) {
		t.Errorf("got %v, want %v", got, want)
	}
}

// Events without a text, and those of no text at all, have none.
func TestNextOfNothing(t *testing.T) {
	for _, e := range []Events{{}, Of(""), Of("\n \n")} {
		for range 2 {
			if next, ok := e.Next(); ok || next != (api.Event{}) {
				t.Errorf("Next = %v, %v", next, ok)
			}
		}
	}
}

// A leaf is looked into when its first event is told, and not ahead of that.
func TestLeavesAreLookedIntoWhenTheyAreComeTo(t *testing.T) {
	e := Of("# a\n> *b*\n> c\n\n```\nd\n```\n#\n# a")
	heading, quote, last := blocks.Span{From: 0, To: 1}, blocks.Span{From: 1, To: 3}, blocks.Span{From: 8, To: 9}
	for _, c := range []struct {
		pulls int
		want  []blocks.Span
	}{
		{0, nil},
		{1, nil},
		{1, []blocks.Span{heading}},
		{3, []blocks.Span{heading}},
		{1, []blocks.Span{heading, quote}},
		{11, []blocks.Span{heading, quote}},
		{1, []blocks.Span{heading, quote}},
		{1, []blocks.Span{heading, quote, last}},
		{9, []blocks.Span{heading, quote, last}},
	} {
		for range c.pulls {
			e.Next()
		}
		if got := known(e); !slices.Equal(got, c.want) {
			t.Errorf("behind %d events more: looked into %v, want %v", c.pulls, got, c.want)
		}
	}
}

// What stands in a leaf is worked out once: what is kept is what is told.
func TestLeavesAreLookedIntoOnce(t *testing.T) {
	e := Of("a *b*")
	e.Next()
	e.Next()
	kept := e.inside[blocks.Span{From: 0, To: 1}]
	if len(kept) != 4 {
		t.Fatalf("kept: %v", kept)
	}
	kept[2] = api.Event{Kind: api.Text, Text: "kept"}
	e.Next()
	if next, ok := e.Next(); next.Text != "kept" || !ok {
		t.Errorf("Next = %v, %v: not what was kept", next, ok)
	}
}
