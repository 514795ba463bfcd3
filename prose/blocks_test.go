package prose_test

import (
	"slices"
	"strings"
	"testing"

	"prose/api"
	"prose/prose"
)

func paragraph(s string) []api.Event { return around(api.Event{Kind: api.Paragraph}, text(s)) }
func code(s string) []api.Event      { return around(api.Event{Kind: api.Block}, text(s)) }

func heading(level int, s string) []api.Event {
	return around(api.Event{Kind: api.Heading, Level: level}, text(s))
}

func quote(l ...[]api.Event) []api.Event { return around(api.Event{Kind: api.Quote}, l...) }
func list(l ...[]api.Event) []api.Event  { return around(api.Event{Kind: api.List}, l...) }
func item(l ...[]api.Event) []api.Event  { return around(api.Event{Kind: api.Item}, l...) }

func checkBlocks(t *testing.T, cases []eventsOf) {
	t.Helper()
	checkEvents(t, prose.Blocks, cases)
}

// P5, P7: each kind of block, field by field, without the helpers that the other tests lean on.
func TestBlocksAreToldAsEvents(t *testing.T) {
	got := prose.Blocks("## h\n\np\n> q\n- i\n```\nc\n```\n")
	want := []api.Event{
		{Kind: api.Heading, End: false, Level: 2, Text: ""},
		{Kind: api.Text, End: false, Level: 0, Text: "h"},
		{Kind: api.Heading, End: true, Level: 2, Text: ""},
		{Kind: api.Paragraph, End: false, Level: 0, Text: ""},
		{Kind: api.Text, End: false, Level: 0, Text: "p"},
		{Kind: api.Paragraph, End: true, Level: 0, Text: ""},
		{Kind: api.Quote, End: false, Level: 0, Text: ""},
		{Kind: api.Paragraph, End: false, Level: 0, Text: ""},
		{Kind: api.Text, End: false, Level: 0, Text: "q"},
		{Kind: api.Paragraph, End: true, Level: 0, Text: ""},
		{Kind: api.Quote, End: true, Level: 0, Text: ""},
		{Kind: api.List, End: false, Level: 0, Text: ""},
		{Kind: api.Item, End: false, Level: 0, Text: ""},
		{Kind: api.Paragraph, End: false, Level: 0, Text: ""},
		{Kind: api.Text, End: false, Level: 0, Text: "i"},
		{Kind: api.Paragraph, End: true, Level: 0, Text: ""},
		{Kind: api.Item, End: true, Level: 0, Text: ""},
		{Kind: api.List, End: true, Level: 0, Text: ""},
		{Kind: api.Block, End: false, Level: 0, Text: ""},
		{Kind: api.Text, End: false, Level: 0, Text: "c\n"},
		{Kind: api.Block, End: true, Level: 0, Text: ""},
	}
	if !slices.Equal(got, want) {
		t.Errorf("got %s\nwant %s", told(got), told(want))
	}
}

// P5: the two examples of the document.
func TestBlocksOfTheExamples(t *testing.T) {
	checkBlocks(t, []eventsOf{
		{"# x\n> - y", several(heading(1, "x"), quote(list(item(paragraph("y")))))},
		{"-a", paragraph("-a")},
		{"- a\n\n  b", list(item(paragraph("a"), paragraph("b")))},
	})
}

// P5, P6: what has no block has no event.
func TestBlocksOfNothing(t *testing.T) {
	for _, s := range []string{"", "\n", "\n\n\n", " ", "\t", " \t \n\t\n  ", "\r", "\r\n\r"} {
		if got := prose.Blocks(s); len(got) != 0 {
			t.Errorf("Blocks(%q) = %s, want none", s, told(got))
		}
	}
}

// P6: the last line ends with a line feed or without; a line feed more is a line more.
func TestBlocksOfLastLines(t *testing.T) {
	checkBlocks(t, []eventsOf{
		{"a", paragraph("a")},
		{"a\n", paragraph("a")},
		{"a\n\n", paragraph("a")},
		{"\na", paragraph("a")},
		{"# a", heading(1, "a")},
		{"# a\n", heading(1, "a")},
		{">", quote()},
		{">\n", quote()},
		{"-", list(item())},
		{"-\n", list(item())},
		{"```", code("")},
		{"```\n", code("")},
		{"```\n\n", code("\n")},
		{"```\na", code("a\n")},
		{"```\na\n", code("a\n")},
		{"```\na\n\n", code("a\n\n")},
		{"```\na\n ", code("a\n \n")},
	})
}

// P5: fences: three backticks begin a block of code whatever stands behind them, but end it only alone.
func TestFences(t *testing.T) {
	checkBlocks(t, []eventsOf{
		{"```\na\n```", code("a\n")},
		{"```\n```", code("")},
		{"```\n\n```", code("\n")},
		{"```go\na\n```", code("a\n")},
		{"``` go ```\na", code("a\n")},
		{"````\na\n````", code("a\n````\n")},
		{"```\na\n``` \t ", code("a\n")},
		{"```\na\n```b\n``` b\n````\n ```\n``\n```\nc", several(code("a\n```b\n``` b\n````\n ```\n``\n"), paragraph("c"))},
		{"```\n # a\n\n\t- b \n> c\n```", code(" # a\n\n\t- b \n> c\n")},
		{"```\na\n```\n```\nb\n```", several(code("a\n"), code("b\n"))},
		{"```\na\n```\n\n```", several(code("a\n"), code(""))},
		{"a\n```\nb\n```\nc", several(paragraph("a"), code("b\n"), paragraph("c"))},
		{"``\na\n``", paragraph("``\na\n``")},
		{" ```\na", paragraph("```\na")},
		{"~~~\na", paragraph("~~~\na")},
		{"```\n\\`*[a](b)\n", code("\\`*[a](b)\n")},
	})
}

// P5: headings: one to three signs, and then the end or a blank.
func TestHeadings(t *testing.T) {
	checkBlocks(t, []eventsOf{
		{"# a", heading(1, "a")},
		{"## a", heading(2, "a")},
		{"### a", heading(3, "a")},
		{"#### a", paragraph("#### a")},
		{"####", paragraph("####")},
		{"#", heading(1, "")},
		{"##", heading(2, "")},
		{"###", heading(3, "")},
		{"# ", heading(1, "")},
		{"## \t ", heading(2, "")},
		{"#\ta", heading(1, "a")},
		{"# \t a \t b\t ", heading(1, "a \t b")},
		{"#a", paragraph("#a")},
		{"##a", paragraph("##a")},
		{"###a", paragraph("###a")},
		{"#\u00a0a", paragraph("#\u00a0a")},
		{"# \u00a0a", heading(1, "\u00a0a")},
		{" # a", paragraph("# a")},
		{"# # a", heading(1, "# a")},
		{"# a #", heading(1, "a #")},
		{"# > a", heading(1, "> a")},
		{"# a\nb", several(heading(1, "a"), paragraph("b"))},
		{"# a\n# b\n## c", several(heading(1, "a"), heading(1, "b"), heading(2, "c"))},
		{"# *a* `b` \\# [c](d)", heading(1, "*a* `b` \\# [c](d)")},
	})
}

// P5: quotes: the sign at the very beginning, and one space behind it that goes with it.
func TestQuotes(t *testing.T) {
	checkBlocks(t, []eventsOf{
		{"> a", quote(paragraph("a"))},
		{">a", quote(paragraph("a"))},
		{">", quote()},
		{"> ", quote()},
		{">\n> \n>\t", quote()},
		{"> a\n>b", quote(paragraph("a\nb"))},
		{"> a\n>\n> b", quote(paragraph("a"), paragraph("b"))},
		{"> a\nb", several(quote(paragraph("a")), paragraph("b"))},
		{"> a\n > b", several(quote(paragraph("a")), paragraph("> b"))},
		{"> a\n\n> b", several(quote(paragraph("a")), quote(paragraph("b")))},
		{"> # a\n> ```\n> b", quote(heading(1, "a"), code("b\n"))},
		{"># a", quote(heading(1, "a"))},
		{">  # a", quote(paragraph("# a"))},
		{">\t# a", quote(paragraph("# a"))},
		{">```\n>a\n> b\n>  c\n>\td\n>\n>```", quote(code("a\nb\n c\n\td\n\n"))},
		{"> ```\na\n```", several(quote(code("")), paragraph("a"), code(""))},
		{"> ```\n> a\n\n> b", several(quote(code("a\n")), quote(paragraph("b")))},
		{" > a", paragraph("> a")},
		{">> a", quote(quote(paragraph("a")))},
		{"> > a\n> b", quote(quote(paragraph("a")), paragraph("b"))},
		{"> - a\n>   b\n> - c", quote(list(item(paragraph("a\nb")), item(paragraph("c"))))},
		{"> - a\n> b\n> - c", quote(list(item(paragraph("a"))), paragraph("b"), list(item(paragraph("c"))))},
	})
}

// P5: item lines: the sign alone, or with a blank behind it.
func TestItemLines(t *testing.T) {
	checkBlocks(t, []eventsOf{
		{"- a", list(item(paragraph("a")))},
		{"-\ta", list(item(paragraph("a")))},
		{"-", list(item())},
		{"- ", list(item())},
		{"-\t", list(item())},
		{"-  \t", list(item())},
		{"-a", paragraph("-a")},
		{"--", paragraph("--")},
		{"-\u00a0a", paragraph("-\u00a0a")},
		{" - a", paragraph("- a")},
		{"* a\n+ b", paragraph("* a\n+ b")},
		{"- a\n- b", list(item(paragraph("a")), item(paragraph("b")))},
		{"- a\n-\n- b", list(item(paragraph("a")), item(), item(paragraph("b")))},
		{"- a\n-b", several(list(item(paragraph("a"))), paragraph("-b"))},
		{"- # a", list(item(heading(1, "a")))},
		{"-\t# a", list(item(heading(1, "a")))},
		{"-  # a", list(item(paragraph("# a")))},
		{"-\t\t# a", list(item(paragraph("# a")))},
		{"- > a", list(item(quote(paragraph("a"))))},
		{"- - a", list(item(list(item(paragraph("a")))))},
		{"- -", list(item(list(item())))},
	})
}

// P5: the lines behind an item line are the item's if they begin with two spaces, which go.
func TestLinesOfItems(t *testing.T) {
	checkBlocks(t, []eventsOf{
		{"- a\n  b", list(item(paragraph("a\nb")))},
		{"- a\n b", several(list(item(paragraph("a"))), paragraph("b"))},
		{"- a\nb", several(list(item(paragraph("a"))), paragraph("b"))},
		{"- a\n\tb", several(list(item(paragraph("a"))), paragraph("b"))},
		{"- a\n \tb", several(list(item(paragraph("a"))), paragraph("b"))},
		{"- a\n  # b", list(item(paragraph("a"), heading(1, "b")))},
		{"- a\n   # b", list(item(paragraph("a\n# b")))},
		{"-\n  a", list(item(paragraph("a")))},
		{"- ```\n  a\n    b\n  ```\n  c", list(item(code("a\n  b\n"), paragraph("c")))},
		{"- ```\n  a\nb", several(list(item(code("a\n"))), paragraph("b"))},
		{"- ```\n  a\n- ```", list(item(code("a\n")), item(code("")))},
		{"- a\n  - b\n  - c\n- d", list(item(paragraph("a"), list(item(paragraph("b")), item(paragraph("c")))), item(paragraph("d")))},
		{"- - a\n    b\n  c", list(item(list(item(paragraph("a\nb"))), paragraph("c")))},
		{"- > a\n  > b\n  c\n> d", several(list(item(quote(paragraph("a\nb")), paragraph("c"))), quote(paragraph("d")))},
		{"- a\n# b", several(list(item(paragraph("a"))), heading(1, "b"))},
		{"- a\n```\n- b", several(list(item(paragraph("a"))), code("- b\n"))},
		{"- a\n> - b\n- c", several(list(item(paragraph("a"))), quote(list(item(paragraph("b")))), list(item(paragraph("c"))))},
	})
}

// P5: blank lines are an item's if it goes on behind them; else it ends, and the list may go on.
func TestBlankLinesOfItems(t *testing.T) {
	checkBlocks(t, []eventsOf{
		{"- a\n\n  b", list(item(paragraph("a"), paragraph("b")))},
		{"- a\n\n\t\n \n  b", list(item(paragraph("a"), paragraph("b")))},
		{"-\n\n  a", list(item(paragraph("a")))},
		{"- a\n\n b", several(list(item(paragraph("a"))), paragraph("b"))},
		{"- a\n\nb", several(list(item(paragraph("a"))), paragraph("b"))},
		{"- a\n    \nb", several(list(item(paragraph("a"))), paragraph("b"))},
		{"- a\n\n\tb", several(list(item(paragraph("a"))), paragraph("b"))},
		{"- a\n", list(item(paragraph("a")))},
		{"- a\n\n \n", list(item(paragraph("a")))},
		{"- a\n    ", list(item(paragraph("a")))},
		{"- a\n\n- b", list(item(paragraph("a")), item(paragraph("b")))},
		{"- a\n\n \t\n\n- b\n\n-", list(item(paragraph("a")), item(paragraph("b")), item())},
		{"- a\n\n  b\n\n- c\n\nd\n\n- e", several(list(item(paragraph("a"), paragraph("b")), item(paragraph("c"))), paragraph("d"), list(item(paragraph("e"))))},
		// Within code they are seen: empty whatever blanks they had, and only if the item goes on.
		{"- ```\n  a\n\n  b", list(item(code("a\n\nb\n")))},
		{"- ```\n      \n\t\n \n  b", list(item(code("\n\n\nb\n")))},
		{"- ```\n  a\n    \n\n", list(item(code("a\n")))},
		{"- ```\n  a\n    \nb", several(list(item(code("a\n"))), paragraph("b"))},
		{"- ```\n  a\n\n- b", list(item(code("a\n")), item(paragraph("b")))},
		{"- - ```\n    a\n\n    b\n\n  c", list(item(list(item(code("a\n\nb\n"))), paragraph("c")))},
		{"> - ```\n>   a\n>\n>   b\n>\n> c", quote(list(item(code("a\n\nb\n"))), paragraph("c"))},
	})
}

// P5: paragraphs: their lines without blanks at either end, up to a blank line or what begins something.
func TestParagraphs(t *testing.T) {
	checkBlocks(t, []eventsOf{
		{"a", paragraph("a")},
		{"a\nb\nc", paragraph("a\nb\nc")},
		{" \ta b\t \n\tc\n  d  ", paragraph("a b\nc\nd")},
		{"a\n\nb", several(paragraph("a"), paragraph("b"))},
		{"a\n \t\nb", several(paragraph("a"), paragraph("b"))},
		{"a\n# b", several(paragraph("a"), heading(1, "b"))},
		{"a\n#b", paragraph("a\n#b")},
		{"a\n#### b", paragraph("a\n#### b")},
		{"a\n```", several(paragraph("a"), code(""))},
		{"a\n``", paragraph("a\n``")},
		{"a\n> b", several(paragraph("a"), quote(paragraph("b")))},
		{"a\n- b", several(paragraph("a"), list(item(paragraph("b"))))},
		{"a\n-", several(paragraph("a"), list(item()))},
		{"a\n-b", paragraph("a\n-b")},
		{"a\n # b\n ```\n > c\n - d", paragraph("a\n# b\n```\n> c\n- d")},
		{"> a\n> - b", quote(paragraph("a"), list(item(paragraph("b"))))},
		{"a\\\n*b* `c`", paragraph("a\\\n*b* `c`")},
		{"\u00a0a\u00a0\n\u3000\n\v", paragraph("\u00a0a\u00a0\n\u3000\n\v")},
	})
}

// P5: at depth 3 no quote and no list begins, neither at first nor within a paragraph.
func TestDepth(t *testing.T) {
	quotes := func(l ...[]api.Event) []api.Event { return quote(quote(quote(l...))) }
	items := func(l ...[]api.Event) []api.Event { return list(item(list(item(list(item(l...)))))) }
	checkBlocks(t, []eventsOf{
		{">>> a", quotes(paragraph("a"))},
		{">>>> a", quotes(paragraph("> a"))},
		{"> > > > a", quotes(paragraph("> a"))},
		{">>>>", quotes(paragraph(">"))},
		{">>>>>>>>", quotes(paragraph(">>>>>"))},
		{">>>- a", quotes(paragraph("- a"))},
		{">>>-", quotes(paragraph("-"))},
		{">>> a\n>>>> b\n>>>- c", quotes(paragraph("a\n> b\n- c"))},
		{">>> a\n>>># b\n>>>```\n>>>> c", quotes(paragraph("a"), heading(1, "b"), code("> c\n"))},
		{">>> a\n>>\n>>> b", quote(quote(quote(paragraph("a")), quote(paragraph("b"))))},
		{">> a\n>>> b\n>> - c", quote(quote(paragraph("a"), quote(paragraph("b")), list(item(paragraph("c")))))},
		{"- - - a", items(paragraph("a"))},
		{"- - - - a", items(paragraph("- a"))},
		{"- - - > a", items(paragraph("> a"))},
		{"- - - a\n      - b\n      > c", items(paragraph("a\n- b\n> c"))},
		{"- - - a\n      # b", items(paragraph("a"), heading(1, "b"))},
		{"- - - a\n    - b", list(item(list(item(list(item(paragraph("a")), item(paragraph("b")))))))},
		{"> - > a", quote(list(item(quote(paragraph("a")))))},
		{"> - > > a\n>   > - b", quote(list(item(quote(paragraph("> a\n- b")))))},
		{"- > - a\n  > - b", list(item(quote(list(item(paragraph("a")), item(paragraph("b"))))))},
		{"- > - - a\n  >   > b", list(item(quote(list(item(paragraph("- a\n> b"))))))},
		// Depth is left again with what made it.
		{">>>> a\n- b\n> c", several(quotes(paragraph("> a")), list(item(paragraph("b"))), quote(paragraph("c")))},
	})
}

// P5: a text that is not regular is made regular first.
func TestBlocksOfIrregularTexts(t *testing.T) {
	checkBlocks(t, []eventsOf{
		{"a\r\nb\rc\n\rd", several(paragraph("a\nb\nc"), paragraph("d"))},
		{"# a\r# b\r\n", several(heading(1, "a"), heading(1, "b"))},
		{"```\r\na\r\r\n```\r", code("a\n\n")},
		{"- a\r\r  b", list(item(paragraph("a"), paragraph("b")))},
		{"> a\r> b", quote(paragraph("a\nb"))},
		{"a\x00b", paragraph("a\ufffdb")},
		{"\x00", paragraph("\ufffd")},
		{"#\x00", paragraph("#\ufffd")},
		{"a\xff\xfeb\xc3", paragraph("a\ufffd\ufffdb\ufffd")},
		{"\xff# a", paragraph("\ufffd# a")},
		{"- \xe2\x82", list(item(paragraph("\ufffd\ufffd")))},
		{"```\n\x80\x00\n```", code("\ufffd\ufffd\n")},
		{"é ¿\ufffd", paragraph("é ¿\ufffd")},
	})
}

// shortTexts are all texts of some lines out of a few that make a difference.
func shortTexts(n int) []string {
	lines := []string{"", "  ", "a", " a", "  a", "# a", "```", "  ```", ">", "> a", "> - a", ">>>> a", "-", "- a", "- > - - a", "  - a", "      a", "\x00\xff\r"}
	texts := []string{""}
	out := texts
	for range n {
		var longer []string
		for _, s := range texts {
			for _, line := range lines {
				longer = append(longer, s+line+"\n")
			}
		}
		texts = longer
		out = append(out, longer...)
	}
	return out
}

// mayStandIn tells what may stand within what (-1: within nothing).
func mayStandIn(in, k api.Kind) bool {
	switch k {
	case api.Text:
		return in == api.Heading || in == api.Paragraph || in == api.Block
	case api.Item:
		return in == api.List
	case api.Paragraph, api.Heading, api.Quote, api.List, api.Block:
		return in == -1 || in == api.Quote || in == api.Item
	}
	return false
}

// misshapen tells what is wrong with the events of some blocks, "" if nothing is.
func misshapen(l []api.Event) string {
	open := []api.Event{{Kind: -1}}
	depth := 0
	for _, e := range l {
		top := open[len(open)-1]
		switch {
		case e.End:
			top.End = true
			if e != top {
				return "an end of what did not begin last"
			}
			open = open[:len(open)-1]
			if e.Kind == api.Quote || e.Kind == api.Item {
				depth--
			}
			continue
		case !mayStandIn(top.Kind, e.Kind):
			return "something stands where it can't"
		case (e.Kind == api.Heading) != (e.Level != 0) || e.Level < 0 || e.Level > 3:
			return "a level that is none"
		case (e.Kind == api.Text) != (e.Text != ""):
			return "a text that is none"
		}
		if e.Kind != api.Text {
			open = append(open, e)
		}
		if e.Kind == api.Quote || e.Kind == api.Item {
			depth++
		}
		if depth > api.MaxDepth {
			return "too deep"
		}
	}
	if len(open) != 1 {
		return "something does not end"
	}
	return ""
}

// P1, P5, P7: whatever the lines are, events are well within one another and have nothing that is not theirs.
func TestBlocksAreWellShaped(t *testing.T) {
	for _, s := range shortTexts(4) {
		got := prose.Blocks(s)
		if wrong := misshapen(got); wrong != "" {
			t.Fatalf("Blocks(%q): %s: %s", s, wrong, told(got))
		}
	}
}

// P6: the last line feed makes no difference to blocks, but behind nothing.
func TestLastLineFeedMakesNoDifference(t *testing.T) {
	for _, s := range shortTexts(3) {
		without := strings.TrimSuffix(s, "\n")
		if strings.HasSuffix(without, "\n") || without == "" {
			continue
		}
		if a, b := prose.Blocks(s), prose.Blocks(without); !slices.Equal(a, b) {
			t.Fatalf("Blocks(%q): %s, without its last line feed: %s", s, told(a), told(b))
		}
	}
}

// P2: what was asked before, or what is done to an answer, is not seen in another one.
func TestBlocksAreTheCallers(t *testing.T) {
	want := several(heading(1, "a"), list(item(paragraph("b"), paragraph("c"))), code("d\n"))
	checkCallers(t, prose.Blocks, eventsOf{"# a\n- b\n\n  c\n```\nd", want})
}

// P2: calls side by side do not see each other.
func TestBlocksSideBySide(t *testing.T) {
	checkSideBySide(t, prose.Blocks, func(word string) eventsOf {
		return eventsOf{"> - " + word, quote(list(item(paragraph(word))))}
	})
}

// P1: Blocks ends at texts that are far longer than a source may give.
func TestBlocksOfLongTextsEnd(t *testing.T) {
	const many = 100_000
	for _, s := range []string{
		strings.Repeat(">", many), strings.Repeat("- ", many), strings.Repeat("> - ", many), strings.Repeat("#", many), strings.Repeat("`", many), strings.Repeat(" ", many),
		strings.Repeat("\n", many), strings.Repeat("- a\n\n", many), "- a" + strings.Repeat("\n", many) + "  b", "- a" + strings.Repeat("\n", many) + "b",
		strings.Repeat("- a\n\n\n  b\n", many), strings.Repeat("> a\n\n", many), strings.Repeat("```\n", many), strings.Repeat("a\n", many), strings.Repeat("```a\n", many),
	} {
		if wrong := misshapen(prose.Blocks(s)); wrong != "" {
			t.Errorf("Blocks(%q ..): %s", s[:10], wrong)
		}
	}
}
