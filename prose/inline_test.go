package prose_test

import (
	"slices"
	"strings"
	"testing"

	"prose/api"
	"prose/prose"
)

func emphasis(l ...[]api.Event) []api.Event { return around(api.Event{Kind: api.Emphasis}, l...) }

// link differs from what else has an end: where it leads is told at its beginning alone.
func link(leads string, l ...[]api.Event) []api.Event {
	out := around(api.Event{Kind: api.Link}, l...)
	out[0].Text = leads
	return out
}

func inlineCode(s string) []api.Event { return []api.Event{{Kind: api.Code, Text: s}} }
func soft() []api.Event               { return []api.Event{{Kind: api.Soft}} }
func hard() []api.Event               { return []api.Event{{Kind: api.Hard}} }

func checkInline(t *testing.T, cases []eventsOf) {
	t.Helper()
	checkEvents(t, prose.Inline, cases)
}

// P7, P8: each kind of event, field by field, without the helpers that the other tests lean on.
func TestLeavesAreToldAsEvents(t *testing.T) {
	got := prose.Inline("a*b*\n`c`\\\n[d](e)")
	want := []api.Event{
		{Kind: api.Text, End: false, Level: 0, Text: "a"},
		{Kind: api.Emphasis, End: false, Level: 0, Text: ""},
		{Kind: api.Text, End: false, Level: 0, Text: "b"},
		{Kind: api.Emphasis, End: true, Level: 0, Text: ""},
		{Kind: api.Soft, End: false, Level: 0, Text: ""},
		{Kind: api.Code, End: false, Level: 0, Text: "c"},
		{Kind: api.Hard, End: false, Level: 0, Text: ""},
		{Kind: api.Link, End: false, Level: 0, Text: "e"},
		{Kind: api.Text, End: false, Level: 0, Text: "d"},
		{Kind: api.Link, End: true, Level: 0, Text: ""},
	}
	if !slices.Equal(got, want) {
		t.Errorf("got %s\nwant %s", told(got), told(want))
	}
}

// P8: the table of the document.
func TestInlineOfTheExamples(t *testing.T) {
	checkInline(t, []eventsOf{
		{"a *b* c", several(text("a "), emphasis(text("b")), text(" c"))},
		{"*a *", text("*a *")},
		{"**", text("**")},
		{"[a](b)", link("b", text("a"))},
		{"[a] (b)", text("[a] (b)")},
		{"*[a*](b)", several(emphasis(text("[a")), text("](b)"))},
		{"[*a](b)*", several(link("b", text("*a")), text("*"))},
		{`a\*`, text("a*")},
	})
}

// P8: text is told as it stands, and what stands together as one event, however it came to be text.
func TestTexts(t *testing.T) {
	checkInline(t, []eventsOf{
		{"", nil},
		{"a", text("a")},
		{"a b\tc", text("a b\tc")},
		{"é¿😀\ufffd", text("é¿😀\ufffd")},
		{`<a href="b">&amp;</a>'`, text(`<a href="b">&amp;</a>'`)},
		{"# a", text("# a")},
		{"> - a", text("> - a")},
		{"a_b_ ~c~ ![d] {e} f|g", text("a_b_ ~c~ ![d] {e} f|g")},
		{"](a) ) ( ]", text("](a) ) ( ]")},
		{"a\\*b\\é\\", text("a*b\\é\\")},
		{"a*b[c`d\\e]f(g)h", text("a*b[c`d\\e]f(g)h")},
		{"a\\!`b`\\!c", several(text("a!"), inlineCode("b"), text("!c"))},
		{"*a\\*\\*b*c\\*d*", several(emphasis(text("a**b")), text("c*d*"))},
	})
}

// P8: a backslash ahead of each ASCII sign makes it text, and goes.
func TestBackslashesAheadOfSigns(t *testing.T) {
	for r := rune(0x21); r < 0x7f; r++ {
		s := string(r)
		want := s
		if '0' <= r && r <= '9' || 'A' <= r && r <= 'Z' || 'a' <= r && r <= 'z' {
			want = `\` + s
		}
		checkInline(t, []eventsOf{
			{`\` + s, text(want)},
			{`a\` + s + `b`, text("a" + want + "b")},
			{`*\` + s + `*`, emphasis(text(want))},
		})
	}
}

// P8: a backslash ahead of a line feed breaks the line; ahead of anything else it is text, and what is behind it is what it is.
func TestOtherBackslashes(t *testing.T) {
	checkInline(t, []eventsOf{
		{"a\\\nb", several(text("a"), hard(), text("b"))},
		{"\\\n", hard()},
		{"\\\n\\\n\n", several(hard(), hard(), soft())},
		{"\\\\\n", several(text(`\`), soft())},
		{"\\\\\\\n", several(text(`\`), hard())},
		{`\`, text(`\`)},
		{`a\`, text(`a\`)},
		{`\\`, text(`\`)},
		{`\\\`, text(`\\`)},
		{`\\\\`, text(`\\`)},
		{`\a\ \0`, text(`\a\ \0`)},
		{"\\\t\\é\\😀\\\ufffd\\\x7f", text("\\\t\\é\\😀\\\ufffd\\\x7f")},
		{`\*a*`, text("*a*")},
		{`\\*a*`, several(text(`\`), emphasis(text("a")))},
		{"\\`a`", text("`a`")},
		{"\\\\`a`", several(text(`\`), inlineCode("a"))},
		{`\[a](b)`, text("[a](b)")},
		{`\\[a](b)`, several(text(`\`), link("b", text("a")))},
		{`\a*b*`, several(text(`\a`), emphasis(text("b")))},
	})
}

// P8: line feeds are Soft, one each, whatever blanks are around them.
func TestLineFeeds(t *testing.T) {
	checkInline(t, []eventsOf{
		{"a\nb", several(text("a"), soft(), text("b"))},
		{"a \n\tb", several(text("a "), soft(), text("\tb"))},
		{"a\nb\nc", several(text("a"), soft(), text("b"), soft(), text("c"))},
		{"*a*\n`b`", several(emphasis(text("a")), soft(), inlineCode("b"))},
	})
}

// P9: texts that no leaf is: blanks and line feeds at the ends, blank lines.
func TestInlineOfNoLeaves(t *testing.T) {
	checkInline(t, []eventsOf{
		{" ", text(" ")},
		{" \ta\t ", text(" \ta\t ")},
		{"\n", soft()},
		{"\n\n\n", several(soft(), soft(), soft())},
		{"\na\n", several(soft(), text("a"), soft())},
		{"a\n\n \n\t\nb", several(text("a"), soft(), soft(), text(" "), soft(), text("\t"), soft(), text("b"))},
		{"\n *a* \n", several(soft(), text(" "), emphasis(text("a")), text(" "), soft())},
		{"*a\n\nb*", emphasis(text("a"), soft(), soft(), text("b"))},
		{"`\n\n`\n", several(inlineCode("  "), soft())},
		{"[\n\n](a)\n\n", several(link("a", soft(), soft()), soft(), soft())},
		{"\\\n\n", several(hard(), soft())},
		{"```\na\n```", several(inlineCode(""), inlineCode(" a "), inlineCode(""))},
	})
}

// P8: code: from a backtick to the next one, and nothing in it is more than text.
func TestCodes(t *testing.T) {
	checkInline(t, []eventsOf{
		{"`a`", inlineCode("a")},
		{"``", inlineCode("")},
		{"`", text("`")},
		{"```", several(inlineCode(""), text("`"))},
		{"````", several(inlineCode(""), inlineCode(""))},
		{"a`b`c", several(text("a"), inlineCode("b"), text("c"))},
		{"a`b", text("a`b")},
		{"a`", text("a`")},
		{"`a`b`", several(inlineCode("a"), text("b`"))},
		{"`a``b`", several(inlineCode("a"), inlineCode("b"))},
		{"` a\t`", inlineCode(" a\t")},
		{"`a\nb\n\nc\n`", inlineCode("a b  c ")},
		{"`\n`", inlineCode(" ")},
		{"`\\`", inlineCode(`\`)},
		{"`a\\`b`", several(inlineCode(`a\`), text("b`"))},
		{"`a\\*\\\nb`", inlineCode(`a\*\ b`)},
		{"`*a*`", inlineCode("*a*")},
		{"`[a](b)`", inlineCode("[a](b)")},
		{"`é😀<&>`", inlineCode("é😀<&>")},
		{"`a\\", text("`a\\")},
		{"`a\\*", text("`a*")},
		{"`a *b*", several(text("`a "), emphasis(text("b")))},
		{"`[a](b)", several(text("`"), link("b", text("a")))},
		{"`\n", several(text("`"), soft())},
	})
}

// P8: links: what is between the brackets, and where they lead.
func TestLinks(t *testing.T) {
	checkInline(t, []eventsOf{
		{"[a](b)", link("b", text("a"))},
		{"x[a](b)y", several(text("x"), link("b", text("a")), text("y"))},
		{"[a](b)[c](d)", several(link("b", text("a")), link("d", text("c")))},
		{"[](b)", link("b")},
		{"[a]()", link("", text("a"))},
		{"[]()", link("")},
		{"[ a\tb ](c)", link("c", text(" a\tb "))},
		{"[a\nb](c)", link("c", text("a"), soft(), text("b"))},
		{"[a\\\nb](c)", link("c", text("a"), hard(), text("b"))},
		{"[`a`](b)", link("b", inlineCode("a"))},
		{"[(a)](b)", link("b", text("(a)"))},
		{"[\\!](b)", link("b", text("!"))},
		// Where it leads is told as it stands.
		{"[a](é😀<&>\"'*`\\*\\)", link("é😀<&>\"'*`\\*\\", text("a"))},
		{"[a]([)", link("[", text("a"))},
		{"[a](])", link("]", text("a"))},
		{"[a](\u00a0\v)", link("\u00a0\v", text("a"))},
		// It goes on behind the first ).
		{"[a](b)(c)", several(link("b", text("a")), text("(c)"))},
		{"[a](b))", several(link("b", text("a")), text(")"))},
		{"[a](\\))", several(link("\\", text("a")), text(")"))},
		{"[a](b)*c*", several(link("b", text("a")), emphasis(text("c")))},
	})
}

// P8: brackets that are text, and what stands behind them is looked at nonetheless.
func TestBracketsWithoutLinks(t *testing.T) {
	checkInline(t, []eventsOf{
		{"[", text("[")},
		{"[a", text("[a")},
		{"[a]", text("[a]")},
		{"[a](", text("[a](")},
		{"[a](b", text("[a](b")},
		{"[a] (b)", text("[a] (b)")},
		{"[a]\n(b)", several(text("[a]"), soft(), text("(b)"))},
		{"[a]b(c)", text("[a]b(c)")},
		{"[a]](b)", text("[a]](b)")},
		{"[a]\\(b)", text("[a](b)")},
		{"[a](b c)", text("[a](b c)")},
		{"[a]( b)", text("[a]( b)")},
		{"[a](b )", text("[a](b )")},
		{"[a](b\tc)", text("[a](b\tc)")},
		{"[a](b\nc)", several(text("[a](b"), soft(), text("c)"))},
		{"[a](b\n)", several(text("[a](b"), soft(), text(")"))},
		{"[a](b(c))", text("[a](b(c))")},
		{"[a]((b)", text("[a]((b)")},
		{"[a](b\\(c)", text("[a](b(c)")},
		{"[a](b[c](d)", several(text("[a](b"), link("d", text("c")))},
		{"a](b)", text("a](b)")},
		// A [ between, whatever stands around it.
		{"[[a](b)", several(text("["), link("b", text("a")))},
		{"[[a](b)](c)", several(text("["), link("b", text("a")), text("](c)"))},
		{"[a[b](c)", several(text("[a"), link("c", text("b")))},
		{"[a\\[b](c)", text("[a[b](c)")},
		{"[`[`](a)", several(text("["), inlineCode("["), text("](a)"))},
		{"[a][b](c)", several(text("[a]"), link("c", text("b")))},
		{"[[]]", text("[[]]")},
		// The first ], whatever stands around it.
		{"[a\\](b)", link("b", text("a\\"))},
		{"[a\\]b](c)", text("[a]b](c)")},
		{"[`a](b)`", several(link("b", text("`a")), text("`"))},
		{"[`]`](b)", several(text("["), inlineCode("]"), text("](b)"))},
		// What is no link may have anything in it.
		{"[*a*]", several(text("["), emphasis(text("a")), text("]"))},
		{"[`a`](*b* c)", several(text("["), inlineCode("a"), text("]("), emphasis(text("b")), text(" c)"))},
	})
}

// P8: emphases: from a star to its partner.
func TestEmphases(t *testing.T) {
	checkInline(t, []eventsOf{
		{"*a*", emphasis(text("a"))},
		{"*a b\tc*", emphasis(text("a b\tc"))},
		{"a*b*c", several(text("a"), emphasis(text("b")), text("c"))},
		{"*a**b*", several(emphasis(text("a")), emphasis(text("b")))},
		{"*a* *b*", several(emphasis(text("a")), text(" "), emphasis(text("b")))},
		{"*a*b*", several(emphasis(text("a")), text("b*"))},
		{"*a*b*c*", several(emphasis(text("a")), text("b"), emphasis(text("c")))},
		{"*é*", emphasis(text("é"))},
		{"*\u00a0*", emphasis(text("\u00a0"))},
		{"*a\nb*", emphasis(text("a"), soft(), text("b"))},
		{"*a\\\nb*", emphasis(text("a"), hard(), text("b"))},
		{"*\\\na*", emphasis(hard(), text("a"))},
		{"*`a`*", emphasis(inlineCode("a"))},
		{"*` `*", emphasis(inlineCode(" "))},
		{"*``*", emphasis(inlineCode(""))},
		{"**a**", several(text("*"), emphasis(text("a")), text("*"))},
		{"***a***", several(text("**"), emphasis(text("a")), text("**"))},
	})
}

// P8: stars that are text, and what stands behind them is looked at nonetheless.
func TestStarsWithoutPartners(t *testing.T) {
	checkInline(t, []eventsOf{
		{"*", text("*")},
		{"*a", text("*a")},
		{"a*", text("a*")},
		{"**", text("**")},
		{"***", text("***")},
		{"****", text("****")},
		{"**a", text("**a")},
		{"* a*", text("* a*")},
		{"*\ta*", text("*\ta*")},
		{"*\na*", several(text("*"), soft(), text("a*"))},
		{"*a *", text("*a *")},
		{"*a\t*", text("*a\t*")},
		{"*a\n*", several(text("*a"), soft(), text("*"))},
		{"*a\\\n*", several(text("*a"), hard(), text("*"))},
		{"* *", text("* *")},
		{"*\\\n*", several(text("*"), hard(), text("*"))},
		{"*a\\ *", text("*a\\ *")},
		// The next star alone is asked, not one behind it.
		{"*a *b", text("*a *b")},
		{"*a *b*", several(text("*a "), emphasis(text("b")))},
		{"* a*b*", several(text("* a"), emphasis(text("b")))},
		{"**a*", several(text("*"), emphasis(text("a")))},
		{"*a `b` [c](d)", several(text("*a "), inlineCode("b"), text(" "), link("d", text("c")))},
	})
}

// P8: on the way to a partner, backslashes with what they make text, and codes, are passed over; links are not.
func TestWaysToPartners(t *testing.T) {
	checkInline(t, []eventsOf{
		{`*a\*`, text("*a*")},
		{`*a\*b*`, emphasis(text("a*b"))},
		{`*\**`, emphasis(text("*"))},
		{`*\*`, text("**")},
		{`*a\\*`, emphasis(text(`a\`))},
		{`*\\*`, emphasis(text(`\`))},
		{`*a\\\*`, text(`*a\*`)},
		{`*a\\\\*b*`, several(emphasis(text(`a\\`)), text("b*"))},
		{`*a\é*`, emphasis(text(`a\é`))},
		{`*a\b*`, emphasis(text(`a\b`))},
		{"*a`*`b*", emphasis(text("a"), inlineCode("*"), text("b"))},
		{"*`*`", several(text("*"), inlineCode("*"))},
		{"*`*`*", emphasis(inlineCode("*"))},
		{"*a`b*", emphasis(text("a`b"))},
		{"*a`b*c`", several(text("*a"), inlineCode("b*c"))},
		{"*a ` b* c`", several(text("*a "), inlineCode(" b* c"))},
		{"*a`b`c`d*", emphasis(text("a"), inlineCode("b"), text("c`d"))},
		{"*a\\`b*c`", several(emphasis(text("a`b")), text("c`"))},
		{"*a`\\`b*", emphasis(text("a"), inlineCode(`\`), text("b"))},
		{"*a`\\`*`", several(emphasis(text("a"), inlineCode(`\`)), text("`"))},
		{"*a\\\\`*`b*", emphasis(text(`a\`), inlineCode("*"), text("b"))},
		{"*[a*](b)", several(emphasis(text("[a")), text("](b)"))},
		{"*[a](*)", several(emphasis(text("[a](")), text(")"))},
		{"*a [*](b)", several(emphasis(text("a [")), text("](b)"))},
	})
}

// P8: links within emphases and emphases within links; within an emphasis, and within a link in one, no star begins one.
func TestPartsWithinParts(t *testing.T) {
	checkInline(t, []eventsOf{
		{"*[a](b)*", emphasis(link("b", text("a")))},
		{"*a [b](c) d*", emphasis(text("a "), link("c", text("b")), text(" d"))},
		{"*[a](b)[c](d)*", emphasis(link("b", text("a")), link("d", text("c")))},
		{"[*a*](b)", link("b", emphasis(text("a")))},
		{"[a *b* c](d)", link("d", text("a "), emphasis(text("b")), text(" c"))},
		{"[*a* *b*](c)", link("c", emphasis(text("a")), text(" "), emphasis(text("b")))},
		{"[*a`b`\nc\\\n\\**](d)", link("d", emphasis(text("a"), inlineCode("b"), soft(), text("c"), hard(), text("*")))},
		{"*[a](b)* [*c*](d)", several(emphasis(link("b", text("a"))), text(" "), link("d", emphasis(text("c"))))},
		// The code that is passed over on the way is cut by the link's end; its stars stand within the emphasis then.
		{"*[`](b)*`*", emphasis(link("b", text("`")), text("*`"))},
		{"*[`](b)*c*`d*", emphasis(link("b", text("`")), text("*c*`d"))},
		{"*[`*](b)`c*", emphasis(link("b", text("`*")), text("`c"))},
		{"*[`*c*](b)`d*", emphasis(link("b", text("`*c*")), text("`d"))},
		{"*[`](*)`c*", emphasis(link("*", text("`")), text("`c"))},
		// Behind its end a star may begin one again.
		{"*[a](b)**c*", several(emphasis(link("b", text("a"))), emphasis(text("c")))},
		{"[*a*](b)*c*", several(link("b", emphasis(text("a"))), emphasis(text("c")))},
	})
}

// P8: a part is looked at by itself: no partner is looked for outside.
func TestPartsByThemselves(t *testing.T) {
	checkInline(t, []eventsOf{
		{"[a`b](c)`", several(link("c", text("a`b")), text("`"))},
		{"`[a`b](c)", several(inlineCode("[a"), text("b](c)"))},
		{"[`a](b) [c`](d)", several(link("b", text("`a")), text(" "), link("d", text("c`")))},
		{"[*a](b)*", several(link("b", text("*a")), text("*"))},
		{"[a*](b)*", several(link("b", text("a*")), text("*"))},
		{"[*a](b) [c*](d)", several(link("b", text("*a")), text(" "), link("d", text("c*")))},
		{"[a\\](b)*c*", several(link("b", text("a\\")), emphasis(text("c")))},
		{"[*a\\](b)*c*", several(link("b", text("*a\\")), emphasis(text("c")))},
		{"*[a*](b)", several(emphasis(text("[a")), text("](b)"))},
		{"*a [b* c](d)", several(emphasis(text("a [b")), text(" c](d)"))},
		{"*[a](b*)", several(emphasis(text("[a](b")), text(")"))},
		{"*[a]*(b)", several(emphasis(text("[a]")), text("(b)"))},
		{"[*[a*](b)", several(text("["), emphasis(text("[a")), text("](b)"))},
		{"[*`a*](b)`", several(link("b", emphasis(text("`a"))), text("`"))},
	})
}

// P8: a text that is not regular is made regular first.
func TestInlineOfIrregularTexts(t *testing.T) {
	checkInline(t, []eventsOf{
		{"a\r\nb\rc\n\rd", several(text("a"), soft(), text("b"), soft(), text("c"), soft(), soft(), text("d"))},
		{"\\\r\n", hard()},
		{"\\\ra", several(hard(), text("a"))},
		{"`a\r\nb\r`", inlineCode("a b ")},
		{"*\ra*", several(text("*"), soft(), text("a*"))},
		{"*a\r*", several(text("*a"), soft(), text("*"))},
		{"[a](b\rc)", several(text("[a](b"), soft(), text("c)"))},
		{"[a\r](b)", link("b", text("a"), soft())},
		{"a\x00b", text("a\ufffdb")},
		{"\x00", text("\ufffd")},
		{"\\\x00", text("\\\ufffd")},
		{"`\x00`", inlineCode("\ufffd")},
		{"[\x00](\x00)", link("\ufffd", text("\ufffd"))},
		{"\xff\xfe", text("\ufffd\ufffd")},
		{"a\xc3", text("a\ufffd")},
		{"*\x80*", emphasis(text("\ufffd"))},
		{"`\xe2\x82`", inlineCode("\ufffd\ufffd")},
		{"[a](\xff)", link("\ufffd", text("a"))},
		{"\\\xc3\xa9\xa9", text("\\é\ufffd")},
	})
}

// shortLeaves are all texts of some signs that make a difference.
func shortLeaves(n int) []string {
	texts := []string{""}
	out := texts
	for range n {
		var longer []string
		for _, s := range texts {
			for _, sign := range []string{"\\", "\n", "`", "[", "](", ")", "*", " ", "a", "\xff"} {
				longer = append(longer, s+sign)
			}
		}
		texts = longer
		out = append(out, longer...)
	}
	return out
}

// misshapenLeaf tells what is wrong with what stands in a leaf, "" if nothing is.
func misshapenLeaf(l []api.Event) string {
	var open []api.Kind
	for i, e := range l {
		switch {
		case e.Level != 0:
			return "a level"
		case e.End && (len(open) == 0 || open[len(open)-1] != e.Kind):
			return "an end of what did not begin last"
		case e.End && e.Text != "":
			return "an end with a text"
		case e.End:
			open = open[:len(open)-1]
		case e.Kind == api.Text && (e.Text == "" || i > 0 && l[i-1].Kind == api.Text):
			return "a text that is none, or two together"
		case (e.Kind == api.Soft || e.Kind == api.Hard || e.Kind == api.Emphasis) && e.Text != "":
			return "a text that is not its own"
		case e.Kind < api.Emphasis:
			return "a block"
		case e.Kind == api.Emphasis || e.Kind == api.Link:
			if slices.Contains(open, e.Kind) {
				return "something within its like"
			}
			open = append(open, e.Kind)
		}
		if e.Kind != api.Link && strings.Contains(e.Text, "\n") {
			return "a line feed in a text"
		}
	}
	if len(open) != 0 {
		return "something does not end"
	}
	return ""
}

// P1, P7, P8: whatever the leaf is, events are well within one another and have nothing that is not theirs.
func TestLeavesAreWellShaped(t *testing.T) {
	for _, s := range shortLeaves(5) {
		got := prose.Inline(s)
		if wrong := misshapenLeaf(got); wrong != "" {
			t.Fatalf("Inline(%q): %s: %s", s, wrong, told(got))
		}
	}
}

// P8: behind a part a leaf goes on as if it began there, whatever stood in the part.
func TestLeavesGoOnBehindParts(t *testing.T) {
	for _, s := range shortLeaves(4) {
		rest := prose.Inline(s)
		checkInline(t, []eventsOf{
			{"[*`](a)" + s, several(link("a", text("*`")), rest)},
			{"`*[`" + s, several(inlineCode("*["), rest)},
			{"*a*" + s, several(emphasis(text("a")), rest)},
			{"\\\n" + s, several(hard(), rest)},
		})
		if t.Failed() {
			return
		}
	}
}

// P2: what was asked before, or what is done to an answer, is not seen in another one.
func TestLeavesAreTheCallers(t *testing.T) {
	want := several(text("a"), emphasis(text("b")), inlineCode("c"), link("e", text("d")), soft())
	checkCallers(t, prose.Inline, eventsOf{"a*b*`c`[d](e)\n", want})
}

// P2: calls side by side do not see each other.
func TestLeavesSideBySide(t *testing.T) {
	checkSideBySide(t, prose.Inline, func(word string) eventsOf {
		return eventsOf{"*" + word + "*" + word, several(emphasis(text(word)), text(word))}
	})
}

// P1: Inline ends at texts that are far longer than a source may give, without asking the same signs again and again.
func TestInlineOfLongTextsEnds(t *testing.T) {
	const many = 30_000
	for _, s := range []string{
		"*", "[", "`", "\\", "]", "(", ")", " ", "\n", "a", "[a", "[a](", "[a](b", "[a](b)", "[[a](b)", "*a", "*a ", "* a", "*a*", "`a", "*`", "*`*", "[`", "[`](a)", "*[`](a)", "*\\", "\\*", "*\\*", "\\`", "[*a*](b)", "*[a](b)*", "*[`*](b)`c*", "\xff",
	} {
		long := strings.Repeat(s, many)
		for _, text := range []string{long, "*" + long, "`" + long, "[" + long, long + "`", "*[" + long + "](a)*"} {
			if wrong := misshapenLeaf(prose.Inline(text)); wrong != "" {
				t.Errorf("Inline(%q ..): %s", text[:10], wrong)
			}
		}
	}
}
