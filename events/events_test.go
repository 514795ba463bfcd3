package events

import (
	"slices"
	"testing"

	"prose/api"
)

// An end has the kind and the level of its beginning, but not its text.
func TestWithin(t *testing.T) {
	for _, c := range []struct{ begin, end api.Event }{
		{api.Event{Kind: api.Quote}, api.Event{Kind: api.Quote, End: true}},
		{api.Event{Kind: api.Heading, Level: 2}, api.Event{Kind: api.Heading, Level: 2, End: true}},
		{api.Event{Kind: api.Link, Text: "a"}, api.Event{Kind: api.Link, End: true}},
	} {
		var got []api.Event
		do := func(e api.Event) { got = append(got, e) }
		Within(c.begin, do, func() { do(api.Event{Kind: api.Soft}) })
		if want := []api.Event{c.begin, {Kind: api.Soft}, c.end}; !slices.Equal(got, want) {
			t.Errorf("got %v, want %v", got, want)
		}
	}
}

// An empty text is not told.
func TestText(t *testing.T) {
	var got []api.Event
	for _, s := range []string{"", "a", ""} {
		Text(s, func(e api.Event) { got = append(got, e) })
	}
	if want := []api.Event{{Kind: api.Text, Text: "a"}}; !slices.Equal(got, want) {
		t.Errorf("got %v, want %v", got, want)
	}
}
