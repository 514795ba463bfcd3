package leaves

import (
	"slices"
	"testing"

	"prose/api"
)

// Each hands on every event, in order; a text only when it is whole, and the last one too.
func TestEachHandsOnEvents(t *testing.T) {
	var got []api.Event
	Each("a\\!*b*c\\", func(e api.Event) { got = append(got, e) })
	want := []api.Event{
		{Kind: api.Text, Text: "a!"}, {Kind: api.Emphasis}, {Kind: api.Text, Text: "b"}, {Kind: api.Emphasis, End: true}, {Kind: api.Text, Text: `c\`},
	}
	if !slices.Equal(got, want) {
		t.Errorf("got %v, want %v", got, want)
	}
}

func TestPartner(t *testing.T) {
	for s, want := range map[string]int{"*": 0, "**": 0, "*a": 0, "*a*": 2, "*a*b*": 2, "* a*": 0, "*a *": 0, `*\*`: 0, `*\**`: 3, `*\\*`: 3, "*`*`*": 4, "*`*": 2, "*`*`": 0, "*\\`*`": 3, "*é*": 3} {
		if got := partner(s); got != want {
			t.Errorf("partner(%q) = %d, want %d", s, got, want)
		}
	}
}

func TestLinkParts(t *testing.T) {
	for _, c := range []struct {
		s, inside, leads string
		ok               bool
	}{
		{"[a](b)", "a", "b", true},
		{"[a](b)c)", "a", "b", true},
		{"[]()", "", "", true},
		{"[a\\](\\)", "a\\", "\\", true},
		{"[", "", "", false},
		{"[a]", "", "", false},
		{"[a](", "", "", false},
		{"[a](b", "", "", false},
		{"[a] (b)", "", "", false},
		{"[a[b](c)", "", "", false},
		{"[a](b c)", "", "", false},
		{"[a](b\tc)", "", "", false},
		{"[a](b\nc)", "", "", false},
		{"[a](b(c)", "", "", false},
	} {
		inside, leads, ok := linkParts(c.s)
		if inside != c.inside || leads != c.leads || ok != c.ok {
			t.Errorf("linkParts(%q) = %q, %q, %v", c.s, inside, leads, ok)
		}
	}
}

func TestLengths(t *testing.T) {
	for _, c := range []struct {
		length func(string) int
		s      string
		want   int
	}{
		{plainLength, "a", 1},
		{plainLength, "abé", 4},
		{plainLength, "ab*c", 2},
		{plainLength, "é`", 2},
		{plainLength, "**", 1},
		{plainLength, "[a\n", 2},
		{escapeLength, `\`, 0},
		{escapeLength, `\a`, 0},
		{escapeLength, `\*a`, 2},
		{escapeLength, `\\\`, 2},
		{codeLength, "`", 0},
		{codeLength, "``", 2},
		{codeLength, "`a`b`", 3},
	} {
		if got := c.length(c.s); got != c.want {
			t.Errorf("of %q: %d, want %d", c.s, got, c.want)
		}
	}
}
