package blocks

import (
	"slices"
	"strconv"
	"strings"
	"testing"

	"prose/api"
)

// Each hands on every event and every leaf as soon as it is found, in order; a leaf that is empty, and a code's text, are no leaves to hand on.
func TestEachHandsOnEvents(t *testing.T) {
	var got []string
	Each("# a\n> b\n> c\n#\n```\nd", func(e api.Event) {
		s := "event " + strconv.Itoa(int(e.Kind)) + e.Text
		if e.End {
			s = "end " + strconv.Itoa(int(e.Kind))
		}
		got = append(got, s)
	}, func(leaf string, at Span) { got = append(got, "leaf "+leaf) })
	want := []string{"event 1", "leaf a", "end 1", "event 2", "event 0", "leaf b\nc", "end 0", "end 2", "event 1", "end 1", "event 5", "event 8d\n", "end 5"}
	if !slices.Equal(got, want) {
		t.Errorf("got %q, want %q", got, want)
	}
}

// leafAt is a leaf and where it stands.
type leafAt struct {
	leaf string
	at   Span
}

func leavesOf(text string) []leafAt {
	var out []leafAt
	Each(text, func(api.Event) {}, func(leaf string, at Span) { out = append(out, leafAt{leaf, at}) })
	return out
}

// Leaves are known by the lines that they stand on, however deep within quotes and items.
func TestSpansOfLeaves(t *testing.T) {
	for _, c := range []struct {
		text string
		want []leafAt
	}{
		{"", nil},
		{"\n \n", nil},
		{"#\n-\n>\n```\na", nil},
		{"a", []leafAt{{"a", Span{0, 1}}}},
		{"a\nb\n", []leafAt{{"a\nb", Span{0, 2}}}},
		{"# a\n# a\n\na", []leafAt{{"a", Span{0, 1}}, {"a", Span{1, 2}}, {"a", Span{3, 4}}}},
		{"```\na\n```\n\n# b\nc", []leafAt{{"b", Span{4, 5}}, {"c", Span{5, 6}}}},
		{"\n> a\n>b\n>\n>> c\nd", []leafAt{{"a\nb", Span{1, 3}}, {"c", Span{4, 5}}, {"d", Span{5, 6}}}},
		{"- a\n  b\n\n  c\n\n- d\n\ne", []leafAt{{"a\nb", Span{0, 2}}, {"c", Span{3, 4}}, {"d", Span{5, 6}}, {"e", Span{7, 8}}}},
		{"a\n- > - b\n  >   c\n  > - d\n- e", []leafAt{{"a", Span{0, 1}}, {"b\nc", Span{1, 3}}, {"d", Span{3, 4}}, {"e", Span{4, 5}}}},
		{">>>> a\n>>>- b", []leafAt{{"> a\n- b", Span{0, 2}}}},
	} {
		if got := leavesOf(c.text); !slices.Equal(got, c.want) {
			t.Errorf("leaves of %q: %v, want %v", c.text, got, c.want)
		}
	}
}

// No two leaves of a text have a line in common, and each stands behind the one before: what is known by a span is one leaf's.
func TestSpansAreApart(t *testing.T) {
	lines := []string{"", "a", "  a", "    # a", "# a", "#", "```", "> a", "> - a", ">>>> a", "- a", "-", "- - - - a"}
	for n := range len(lines) * len(lines) * len(lines) * len(lines) {
		text := ""
		for m := n; m > 0; m /= len(lines) {
			text += lines[m%len(lines)] + "\n"
		}
		behind := 0
		for _, l := range leavesOf(text) {
			if l.at.From < behind || l.at.To-l.at.From != 1+strings.Count(l.leaf, "\n") || l.at.To > strings.Count(text, "\n") {
				t.Fatalf("of %q: leaf %q at %v behind line %d", text, l.leaf, l.at, behind)
			}
			behind = l.at.To
		}
	}
}

func TestLines(t *testing.T) {
	for _, c := range []struct {
		text string
		want []string
	}{
		{"", nil},
		{"a", []string{"a"}},
		{"a\n", []string{"a"}},
		{"\n", []string{""}},
		{"a\n\n", []string{"a", ""}},
		{"\na\n \n\tb", []string{"", "a", " ", "\tb"}},
	} {
		if got := lines(c.text); !slices.Equal(got, c.want) {
			t.Errorf("lines(%q) = %q, want %q", c.text, got, c.want)
		}
	}
}

func TestLevel(t *testing.T) {
	for line, want := range map[string]int{"": 0, " ": 0, "a": 0, "#": 1, "##": 2, "###": 3, "####": 0, "# a": 1, "##\t": 2, "###  a": 3, "#### a": 0, "#a": 0, " # a": 0, "## #": 2} {
		if got := level(line); got != want {
			t.Errorf("level(%q) = %d, want %d", line, got, want)
		}
	}
}

func TestBegins(t *testing.T) {
	for _, c := range []struct {
		line            string
		within, deepest api.Kind
	}{
		{"```", api.Block, api.Block},
		{"```a", api.Block, api.Block},
		{"``", api.Paragraph, api.Paragraph},
		{"# a", api.Heading, api.Heading},
		{"#a", api.Paragraph, api.Paragraph},
		{">", api.Quote, api.Paragraph},
		{">a", api.Quote, api.Paragraph},
		{"-", api.List, api.Paragraph},
		{"-\ta", api.List, api.Paragraph},
		{"-a", api.Paragraph, api.Paragraph},
		{" - a", api.Paragraph, api.Paragraph},
	} {
		for depth := range api.MaxDepth {
			if got := begins(c.line, depth); got != c.within {
				t.Errorf("begins(%q, %d) = %d, want %d", c.line, depth, got, c.within)
			}
		}
		if got := begins(c.line, api.MaxDepth); got != c.deepest {
			t.Errorf("begins(%q, %d) = %d, want %d", c.line, api.MaxDepth, got, c.deepest)
		}
	}
}

func TestItem(t *testing.T) {
	for _, c := range []struct{ l, inside []string }{
		{[]string{"-"}, []string{""}},
		{[]string{"-\ta", "b"}, []string{"a"}},
		{[]string{"-  a", "   b", " c"}, []string{" a", " b"}},
		{[]string{"- a", "", "    ", "  b"}, []string{"a", "", "", "b"}},
		{[]string{"- a", "", "    "}, []string{"a"}},
		{[]string{"- a", "  b", "", "- c"}, []string{"a", "b"}},
	} {
		if got := item(c.l); !slices.Equal(got, c.inside) {
			t.Errorf("item(%q) = %q, want %q", c.l, got, c.inside)
		}
	}
}
