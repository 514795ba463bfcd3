package prose_test

import (
	"errors"
	"slices"
	"strings"
	"sync"
	"testing"

	"prose/api"
	"prose/plain"
	"prose/prose"
)

// ofText is a source that gives a text at once.
func ofText(s string) *script { return &script{answers: doneWith(s)} }

// pulled are all events that Next tells.
func pulled(p *prose.Parser) []api.Event {
	var out []api.Event
	for {
		e, ok := p.Next()
		if !ok {
			return out
		}
		out = append(out, e)
	}
}

// goneThrough are the events that All tells to one who stops behind n (below 1: does not stop).
func goneThrough(p *prose.Parser, n int) []api.Event {
	var out []api.Event
	for e := range p.All() {
		out = append(out, e)
		if len(out) == n {
			break
		}
	}
	return out
}

// paragraphOf is a paragraph with what stands in its leaf.
func paragraphOf(l ...[]api.Event) []api.Event { return around(api.Event{Kind: api.Paragraph}, l...) }

func pulledOf(s string) []api.Event      { return pulled(prose.New(ofText(s))) }
func goneThroughOf(s string) []api.Event { return goneThrough(prose.New(ofText(s)), 0) }

// lookedInto are a text's blocks, with what stands in leaves in their place, by the calls that do not pull.
func lookedInto(s string) []api.Event {
	var out []api.Event
	leaf := false
	for _, e := range prose.Blocks(s) {
		if leaf && e.Kind == api.Text {
			out = append(out, prose.Inline(e.Text)...)
		} else {
			out = append(out, e)
		}
		leaf = e.Kind == api.Paragraph || e.Kind == api.Heading
	}
	return out
}

func checkEnd(t *testing.T, p *prose.Parser) {
	t.Helper()
	for range 3 {
		if e, ok := p.Next(); ok || e != (api.Event{}) {
			t.Errorf("Next behind the end = %v, %v", e, ok)
		}
		if l := goneThrough(p, 0); len(l) != 0 {
			t.Errorf("All behind the end: %s", told(l))
		}
	}
}

func checkSame(t *testing.T, got, want []api.Event) {
	t.Helper()
	if !slices.Equal(got, want) {
		t.Errorf("got %s\nwant %s", told(got), told(want))
	}
}

// ofEachKind has each kind of block and each kind of what stands in leaves, two leaves that are alike, and one that is empty.
const ofEachKind = "# a *b*\n\n> [c](d)\\\n> e\n\n- `f`\n  g\n-\n\n##\n```\n*h*\\\n```\n# a *b*\n"

func eventsOfEachKind() []api.Event {
	return []api.Event{
		{Kind: api.Heading, Level: 1}, {Kind: api.Text, Text: "a "}, {Kind: api.Emphasis}, {Kind: api.Text, Text: "b"}, {Kind: api.Emphasis, End: true}, {Kind: api.Heading, Level: 1, End: true},
		{Kind: api.Quote}, {Kind: api.Paragraph},
		{Kind: api.Link, Text: "d"}, {Kind: api.Text, Text: "c"}, {Kind: api.Link, End: true}, {Kind: api.Hard}, {Kind: api.Text, Text: "e"},
		{Kind: api.Paragraph, End: true}, {Kind: api.Quote, End: true},
		{Kind: api.List}, {Kind: api.Item}, {Kind: api.Paragraph}, {Kind: api.Code, Text: "f"}, {Kind: api.Soft}, {Kind: api.Text, Text: "g"}, {Kind: api.Paragraph, End: true}, {Kind: api.Item, End: true},
		{Kind: api.Item}, {Kind: api.Item, End: true}, {Kind: api.List, End: true},
		{Kind: api.Heading, Level: 2}, {Kind: api.Heading, Level: 2, End: true},
		{Kind: api.Block}, {Kind: api.Text, Text: "*h*\\\n"}, {Kind: api.Block, End: true},
		{Kind: api.Heading, Level: 1}, {Kind: api.Text, Text: "a "}, {Kind: api.Emphasis}, {Kind: api.Text, Text: "b"}, {Kind: api.Emphasis, End: true}, {Kind: api.Heading, Level: 1, End: true},
	}
}

// P11: by Next alone, and by All alone, all events, field by field, and then none.
func TestEventsArePulled(t *testing.T) {
	p := prose.New(ofText(ofEachKind))
	checkSame(t, pulled(p), eventsOfEachKind())
	checkEnd(t, p)
	p = prose.New(ofText(ofEachKind))
	checkSame(t, goneThrough(p, 0), eventsOfEachKind())
	checkEnd(t, p)
}

// P11: what is pulled of texts that are written out.
func TestPulledEvents(t *testing.T) {
	cases := []eventsOf{
		{"", nil},
		{"\n \n\t", nil},
		{"a", paragraph("a")},
		{"#", heading(1, "")},
		{"# *a*", around(api.Event{Kind: api.Heading, Level: 1}, emphasis(text("a")))},
		{"a\nb", paragraphOf(text("a"), soft(), text("b"))},
		{"a\n\na", several(paragraph("a"), paragraph("a"))},
		{"``", paragraphOf(inlineCode(""))},
		{"```\n`a` *b* [c](d) \\*\n", code("`a` *b* [c](d) \\*\n")},
		{"```\n\\\n```\n\\*", several(code("\\\n"), paragraph("*"))},
		{"```", code("")},
		{">\n-", several(quote(), list(item()))},
		// Partners are not looked for outside of a leaf.
		{"# *a\nb*", several(heading(1, "*a"), paragraph("b*"))},
		{"`a\n\nb`", several(paragraph("`a"), paragraph("b`"))},
		{"> *a\n> b*\n\n- [c\n  d](e)", several(
			quote(paragraphOf(emphasis(text("a"), soft(), text("b")))),
			list(item(paragraphOf(link("e", text("c"), soft(), text("d"))))))},
		{"# x\n> - y", several(heading(1, "x"), quote(list(item(paragraph("y")))))},
	}
	checkEvents(t, pulledOf, cases)
	checkEvents(t, goneThroughOf, cases)
}

// P11: they are those of Blocks, with those of Inline in place of leaves, whatever the text is.
func TestPulledEventsAreThoseOfTheOtherCalls(t *testing.T) {
	texts := shortTexts(3)
	for _, s := range shortLeaves(3) {
		texts = append(texts, s, "# "+s, "> "+s+s, "- "+s+"\n\n  "+s, "```\n"+s)
	}
	for _, s := range texts {
		checkEvents(t, pulledOf, []eventsOf{{s, lookedInto(s)}})
		if t.Failed() {
			return
		}
	}
}

// P10: New reads nothing, and All reads nothing till it is gone through; what comes first of Next, Err and All reads all, and what comes later nothing.
func TestSourceIsGatheredOnce(t *testing.T) {
	calls := map[string]func(*prose.Parser){
		"Next": func(p *prose.Parser) { p.Next() },
		"Err":  func(p *prose.Parser) { p.Err() },
		"All":  func(p *prose.Parser) { goneThrough(p, 1) },
	}
	own := errors.New("its own")
	for name, call := range calls {
		for _, answers := range [][]answer{doneBehind("a", "", "*b*"), doneWith(""), failing(own), failing(own, "a", "b"), pieces(letters(301)), pieces("", "", "")} {
			s := &script{answers: answers}
			p := prose.New(s)
			seq := p.All()
			if s.reads != 0 {
				t.Errorf("New and All of %v: %d reads", answers, s.reads)
			}
			call(p)
			if s.reads != len(answers) {
				t.Errorf("%s of %v: %d reads, want %d", name, answers, s.reads, len(answers))
			}
			for _, later := range calls {
				later(p)
			}
			for range seq {
			}
			pulled(p)
			if s.reads != len(answers) {
				t.Errorf("calls behind %s of %v: %d reads, want %d", name, answers, s.reads, len(answers))
			}
		}
	}
}

// P10: without an error Err is nil, ahead of, between and behind pulls, and asking for it pulls nothing.
func TestErrBetweenPulls(t *testing.T) {
	p := prose.New(ofText(ofEachKind))
	var got []api.Event
	for {
		if err := p.Err(); err != nil {
			t.Errorf("Err behind %d events = %v", len(got), err)
		}
		e, ok := p.Next()
		if !ok {
			break
		}
		got = append(got, e)
	}
	checkSame(t, got, eventsOfEachKind())
	if err := p.Err(); err != nil {
		t.Errorf("Err behind the end = %v", err)
	}
}

// P11: wherever the caller stops All, Next, or All again, goes on with the next event.
func TestStoppingAnywhere(t *testing.T) {
	want := eventsOfEachKind()
	for ahead := range len(want) + 1 {
		for n := 1; n <= len(want)-ahead; n++ {
			for _, rest := range []func(*prose.Parser) []api.Event{pulled, func(p *prose.Parser) []api.Event { return goneThrough(p, 0) }} {
				p := prose.New(ofText(ofEachKind))
				for range ahead {
					p.Next()
				}
				checkSame(t, goneThrough(p, n), want[ahead:ahead+n])
				checkSame(t, rest(p), want[ahead+n:])
				checkEnd(t, p)
			}
		}
		if t.Failed() {
			return
		}
	}
}

// P11: All in steps of any length tells all, and one iterator may be gone through again.
func TestGoingThroughInSteps(t *testing.T) {
	want := eventsOfEachKind()
	for n := 1; n <= len(want)+1; n++ {
		p := prose.New(ofText(ofEachKind))
		seq := p.All()
		var got []api.Event
		for range len(want) + 1 {
			step := 0
			for e := range seq {
				got = append(got, e)
				if step++; step == n {
					break
				}
			}
		}
		checkSame(t, got, want)
		checkEnd(t, p)
	}
}

// P11: one who has said that it stops is not told more.
func TestAllStopsAtOnce(t *testing.T) {
	p := prose.New(ofText(ofEachKind))
	calls := 0
	p.All()(func(api.Event) bool {
		calls++
		return false
	})
	if calls != 1 {
		t.Errorf("told %d events to one who stops at the first", calls)
	}
	checkSame(t, pulled(p), eventsOfEachKind()[1:])
}

// P11: pulls while All is gone through take from the same events.
func TestPullsWithinAll(t *testing.T) {
	p := prose.New(ofText(ofEachKind))
	var got []api.Event
	for e := range p.All() {
		got = append(got, e)
		if e, ok := p.Next(); ok {
			got = append(got, e)
		}
		got = append(got, goneThrough(p, 2)...)
		if err := p.Err(); err != nil {
			t.Errorf("Err = %v", err)
		}
	}
	checkSame(t, got, eventsOfEachKind())
	checkEnd(t, p)
}

// P11: a caller that panics has stopped.
func TestNextGoesOnBehindPanics(t *testing.T) {
	p := prose.New(ofText(ofEachKind))
	func() {
		defer func() {
			if recover() == nil {
				t.Error("the caller's panic is lost")
			}
		}()
		for range p.All() {
			panic("the caller's own")
		}
	}()
	checkSame(t, pulled(p), eventsOfEachKind()[1:])
}

// checkFails asks for an error, as often as it is asked for, and no events.
func checkFails(t *testing.T, answers []answer, right func(error) bool) {
	t.Helper()
	for first := range 4 {
		p := prose.New(&script{answers: answers})
		switch first {
		case 0:
			checkEnd(t, p)
		case 1:
			checkSame(t, goneThrough(p, 0), nil)
		case 2:
			checkSame(t, goneThrough(p, 1), nil)
		}
		err := p.Err()
		if !right(err) {
			t.Errorf("Err of %v = %v", answers, err)
		}
		checkEnd(t, p)
		if again := p.Err(); again != err {
			t.Errorf("Err of %v = %v, and then %v", answers, err, again)
		}
	}
}

// P10: where gathering fails, Err is its error, and there is no event, not even of what had come before.
func TestErrOfSourcesThatFail(t *testing.T) {
	own := errors.New("its own")
	of := func(want error, n int) func(error) bool {
		return func(err error) bool {
			r, ok := err.(*api.ReadError)
			return ok && r.Err == want && r.N == n && errors.Is(err, want)
		}
	}
	is := func(want error) func(error) bool { return func(err error) bool { return err == want } }
	checkFails(t, failing(own), of(own, 0))
	checkFails(t, failing(own, "# a\n"), of(own, 4))
	checkFails(t, []answer{{piece: "# a\n", done: true, err: own}}, of(own, 0))
	checkFails(t, failing(own, "# a\n", "", "\xff"), of(own, 5))
	checkFails(t, failing(api.ErrIdle, "a"), of(api.ErrIdle, 1))
	checkFails(t, doneWith(letters(301)), is(api.ErrLong))
	checkFails(t, doneWith(each(301, "a")...), is(api.ErrLong))
	checkFails(t, pieces("", "", "", "a"), is(api.ErrIdle))
	checkFails(t, pieces("# a", "", "", ""), is(api.ErrIdle))
}

// P10, P11: 300 bytes are not too many, whatever comes of them.
func TestPulledEventsOfAFullText(t *testing.T) {
	var headings []api.Event
	for range 150 {
		headings = append(headings, heading(1, "")...)
	}
	checkSame(t, pulledOf(strings.Repeat("#\n", 150)), headings)
	checkSame(t, pulledOf(strings.Repeat("`", 300)), code(""))
	checkSame(t, pulledOf(strings.Repeat("\\*", 150)), paragraph(strings.Repeat("*", 150)))
}

// P1: a source that is nil has ended; a parser that New did not make has none.
func TestParsersWithoutSources(t *testing.T) {
	var none *prose.Parser
	for _, p := range []*prose.Parser{prose.New(nil), {}, none} {
		checkEnd(t, p)
		if err := p.Err(); err != nil {
			t.Errorf("Err without a source = %v", err)
		}
		checkEnd(t, p)
	}
	p := prose.New(nil)
	if err := p.Err(); err != nil {
		t.Errorf("Err without a source = %v", err)
	}
}

// P1: a source that panics has failed.
func TestParsersOfSourcesThatPanic(t *testing.T) {
	var none *script
	for _, s := range []api.Source{none, ask(nil), ask(func() (string, bool, error) { panic("its own") })} {
		p := prose.New(s)
		checkEnd(t, p)
		if _, ok := p.Err().(*api.ReadError); !ok {
			t.Errorf("Err = %v, want a ReadError", p.Err())
		}
	}
}

// P1, P10: a source that asks the parser whose source it is learns nothing, and is not read within its own answer.
func TestSourcesThatAskTheirParser(t *testing.T) {
	reads := 0
	var p *prose.Parser
	p = prose.New(ask(func() (string, bool, error) {
		reads++
		checkEnd(t, p)
		if err := p.Err(); err != nil {
			t.Errorf("Err while the source is read = %v", err)
		}
		return "a", reads == 2, nil
	}))
	checkSame(t, pulled(p), paragraph("aa"))
	if reads != 2 {
		t.Errorf("%d reads, want 2", reads)
	}
}

// P3, P11: texts that are not regular, cut anywhere, are pulled as if they came regular and at once.
func TestPulledEventsDoNotHangOnCuts(t *testing.T) {
	for _, c := range []eventsOf{
		{"# *é*\r\n\r- \x00\r\n  \xe2\x82\\\r[a](b)", several(
			around(api.Event{Kind: api.Heading, Level: 1}, emphasis(text("é"))),
			list(item(paragraphOf(text("\ufffd"), soft(), text("\ufffd\ufffd\\")))),
			paragraphOf(link("b", text("a"))))},
		{"a\\\r\nb\r\r\n`c\r\nd`", several(
			paragraphOf(text("a"), hard(), text("b")),
			paragraphOf(inlineCode("c d")))},
		{"```\r\n\xff*\r*\r\n", code("\ufffd*\n*\n")},
		{ofEachKind, eventsOfEachKind()},
	} {
		for i := range len(c.text) + 1 {
			for j := i; j <= len(c.text); j++ {
				p := prose.New(&script{answers: doneBehind(c.text[:i], c.text[i:j], c.text[j:])})
				checkSame(t, goneThrough(p, 3), c.want[:3])
				checkSame(t, pulled(p), c.want[3:])
				if t.Failed() {
					t.Fatalf("%q cut at %d and %d", c.text, i, j)
				}
			}
		}
	}
}

// P2: parsers that are pulled in turns do not hang on one another, be their texts alike or not.
func TestParsersInTurns(t *testing.T) {
	texts := []string{ofEachKind, "# a *b*\n\n> [c](d)", ofEachKind, "*a* `b`\n", ""}
	var parsers []*prose.Parser
	for _, s := range texts {
		parsers = append(parsers, prose.New(ofText(s)))
	}
	got := make([][]api.Event, len(texts))
	for turn := range len(eventsOfEachKind()) + 1 {
		for i, p := range parsers {
			if turn%3 == 0 {
				got[i] = append(got[i], goneThrough(p, 1+i%2)...)
			} else if e, ok := p.Next(); ok {
				got[i] = append(got[i], e)
			}
		}
	}
	for i, s := range texts {
		checkSame(t, got[i], lookedInto(s))
		checkEnd(t, parsers[i])
	}
}

// P2: a parser that fails, or is stopped, does not make another one fail or stop.
func TestParsersFailByThemselves(t *testing.T) {
	own := errors.New("its own")
	good, bad := prose.New(ofText("a *b*")), prose.New(&script{answers: failing(own, "a *b*")})
	goneThrough(good, 2)
	if err := bad.Err(); !errors.Is(err, own) {
		t.Errorf("Err = %v, want one of %v", err, own)
	}
	checkEnd(t, bad)
	if err := good.Err(); err != nil {
		t.Errorf("Err = %v", err)
	}
	checkSame(t, pulled(good), lookedInto("a *b*")[2:])
}

// P2: parsers side by side do not see each other.
func TestParsersSideBySide(t *testing.T) {
	var all sync.WaitGroup
	for range 8 {
		all.Go(func() {
			for range 20 {
				checkSame(t, goneThroughOf(ofEachKind), eventsOfEachKind())
			}
		})
	}
	all.Wait()
}

// P10, P11: as it is asked from outside.
func TestParserFromOutside(t *testing.T) {
	p := plain.New(plain.In{Text: "# *a*\n", Cuts: []int{1, 0, 2}, With: true}, false)
	if p.Reads() != 0 {
		t.Errorf("New: %d reads", p.Reads())
	}
	l, right := p.All(2)
	want := []plain.Event{{Kind: int(api.Heading), Level: 1}, {Kind: int(api.Emphasis)}}
	if !slices.Equal(l, want) || !right || p.Reads() != 4 {
		t.Errorf("All = %v, %v, %d reads", l, right, p.Reads())
	}
	if e, ok := p.Next(); e != (plain.Event{Kind: int(api.Text), Text: "a"}) || !ok {
		t.Errorf("Next = %v, %v", e, ok)
	}
	l, right = p.All(0)
	want = []plain.Event{{Kind: int(api.Emphasis), End: true}, {Kind: int(api.Heading), End: true, Level: 1}}
	if !slices.Equal(l, want) || !right {
		t.Errorf("All = %v, %v", l, right)
	}
	if e, ok := p.Next(); e != (plain.Event{}) || ok {
		t.Errorf("Next behind the end = %v, %v", e, ok)
	}
	if err, reads := p.Err(); err != (plain.Told{}) || reads != 4 {
		t.Errorf("Err = %v, %d reads", err, reads)
	}
	p = plain.New(plain.In{Text: "abc", Cuts: []int{1, 1}, FailAt: 3}, false)
	if e, ok := p.Next(); ok || e != (plain.Event{}) {
		t.Errorf("Next of what fails = %v, %v", e, ok)
	}
	if err, reads := p.Err(); err != (plain.Told{Err: plain.Read, N: 2}) || reads != 3 {
		t.Errorf("Err = %v, %d reads", err, reads)
	}
}
