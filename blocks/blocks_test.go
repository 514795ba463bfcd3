package blocks

import (
	"slices"
	"testing"

	"prose/api"
)

// Each hands on every event as soon as it is found, in order.
func TestEachHandsOnEvents(t *testing.T) {
	var got []api.Event
	Each("# a\n> b", func(e api.Event) { got = append(got, e) })
	want := []api.Event{
		{Kind: api.Heading, Level: 1}, {Kind: api.Text, Text: "a"}, {Kind: api.Heading, Level: 1, End: true},
		{Kind: api.Quote}, {Kind: api.Paragraph}, {Kind: api.Text, Text: "b"}, {Kind: api.Paragraph, End: true}, {Kind: api.Quote, End: true},
	}
	if !slices.Equal(got, want) {
		t.Errorf("got %v, want %v", got, want)
	}
}

func TestLines(t *testing.T) {
	for _, c := range []struct {
		text string
		want []string
	}{
		{"", nil},
		{"a", []string{"a"}},
		{"a\n", []string{"a"}},
		{"\n", []string{""}},
		{"a\n\n", []string{"a", ""}},
		{"\na\n \n\tb", []string{"", "a", " ", "\tb"}},
	} {
		if got := lines(c.text); !slices.Equal(got, c.want) {
			t.Errorf("lines(%q) = %q, want %q", c.text, got, c.want)
		}
	}
}

func TestLevel(t *testing.T) {
	for line, want := range map[string]int{"": 0, " ": 0, "a": 0, "#": 1, "##": 2, "###": 3, "####": 0, "# a": 1, "##\t": 2, "###  a": 3, "#### a": 0, "#a": 0, " # a": 0, "## #": 2} {
		if got := level(line); got != want {
			t.Errorf("level(%q) = %d, want %d", line, got, want)
		}
	}
}

func TestBegins(t *testing.T) {
	for _, c := range []struct {
		line            string
		within, deepest api.Kind
	}{
		{"```", api.Block, api.Block},
		{"```a", api.Block, api.Block},
		{"``", api.Paragraph, api.Paragraph},
		{"# a", api.Heading, api.Heading},
		{"#a", api.Paragraph, api.Paragraph},
		{">", api.Quote, api.Paragraph},
		{">a", api.Quote, api.Paragraph},
		{"-", api.List, api.Paragraph},
		{"-\ta", api.List, api.Paragraph},
		{"-a", api.Paragraph, api.Paragraph},
		{" - a", api.Paragraph, api.Paragraph},
	} {
		for depth := range api.MaxDepth {
			if got := begins(c.line, depth); got != c.within {
				t.Errorf("begins(%q, %d) = %d, want %d", c.line, depth, got, c.within)
			}
		}
		if got := begins(c.line, api.MaxDepth); got != c.deepest {
			t.Errorf("begins(%q, %d) = %d, want %d", c.line, api.MaxDepth, got, c.deepest)
		}
	}
}

func TestItem(t *testing.T) {
	for _, c := range []struct{ l, inside, behind []string }{
		{[]string{"-"}, []string{""}, nil},
		{[]string{"-\ta", "b"}, []string{"a"}, []string{"b"}},
		{[]string{"-  a", "   b", " c"}, []string{" a", " b"}, []string{" c"}},
		{[]string{"- a", "", "    ", "  b"}, []string{"a", "", "", "b"}, nil},
		{[]string{"- a", "", "    "}, []string{"a"}, []string{"", "    "}},
		{[]string{"- a", "  b", "", "- c"}, []string{"a", "b"}, []string{"", "- c"}},
	} {
		inside, behind := item(c.l)
		if !slices.Equal(inside, c.inside) || !slices.Equal(behind, c.behind) {
			t.Errorf("item(%q) = %q, %q, want %q, %q", c.l, inside, behind, c.inside, c.behind)
		}
	}
}
