package prose_test

import (
	"errors"
	"fmt"
	"math"
	"slices"
	"strings"
	"sync"
	"testing"

	"prose/api"
	"prose/plain"
	"prose/prose"
)

// bowl is a sink that takes as many bytes of each offer as takes says, in turns (none: all), and then writes into them.
type bowl struct {
	takes  []int
	offers []string
	got    string
}

func (s *bowl) Take(b []byte) (int, error) {
	n := len(b)
	if len(s.takes) > 0 {
		n = min(n, s.takes[len(s.offers)%len(s.takes)])
	}
	s.offers = append(s.offers, string(b))
	s.got += string(b[:n])
	scribble(b)
	return n, nil
}

// scribble writes into all that can be reached from some bytes.
func scribble(b []byte) {
	b = b[:cap(b)]
	for i := range b {
		b[i] = '!'
	}
}

// last is a sink that takes some bytes of each offer, and at one of them, the last it should be made, says what is written.
type last struct {
	bowl
	at  int // 1, 2 ..
	n   int
	err error
	do  func() // nil: nothing
}

func (s *last) Take(b []byte) (int, error) {
	n, err := s.bowl.Take(b)
	if len(s.offers) != s.at {
		return n, err
	}
	if s.do != nil {
		s.do()
	}
	return s.n, s.err
}

// taken is how many bytes were taken before the last offer.
func (s *last) taken() int {
	n := 0
	for i := range s.at - 1 {
		k := len(s.offers[i])
		if len(s.takes) > 0 {
			k = min(k, s.takes[i%len(s.takes)])
		}
		n += k
	}
	return n
}

// waysOfTaking are such as takes says them: all, one byte, some.
func waysOfTaking() [][]int {
	return [][]int{nil, {1}, {2}, {15}, {16}, {17}, {1, 16}, {3, 1, 4}, {16, 2, 5}, {7, 100, 1}}
}

// offersOf are what is to be offered of a page: as much as may be, from the first byte on that is not taken.
func offersOf(page string, takes []int) []string {
	var out []string
	for page != "" {
		offer := page[:min(api.MaxOffer, len(page))]
		n := len(offer)
		if len(takes) > 0 {
			n = min(n, takes[len(out)%len(takes)])
		}
		out = append(out, offer)
		page = page[n:]
	}
	return out
}

// checkPage asks for a text's page, however it is taken.
func checkPage(t *testing.T, text, want string) {
	t.Helper()
	for _, takes := range waysOfTaking() {
		s := &bowl{takes: takes}
		n, err := prose.Write(ofText(text), s)
		if n != len(want) || err != nil || s.got != want {
			t.Errorf("Write of %q, of which is taken %v = %d, %v:\n got %q\nwant %q", text, takes, n, err, s.got, want)
		}
		if offers := offersOf(want, takes); !slices.Equal(s.offers, offers) {
			t.Errorf("Write of %q, of which is taken %v:\n offered %q\n    want %q", text, takes, s.offers, offers)
		}
	}
	if n, err := prose.Write(ofText(text), nil); n != len(want) || err != nil {
		t.Errorf("Write of %q without a sink = %d, %v, want %d", text, n, err, len(want))
	}
}

// pageOf is a text and its page.
type pageOf struct{ text, want string }

func checkPages(t *testing.T, cases []pageOf) {
	t.Helper()
	for _, c := range cases {
		checkPage(t, c.text, c.want)
	}
}

// P12: each kind of block, with the line feeds that go with it and no other.
func TestBlocksAreWritten(t *testing.T) {
	checkPages(t, []pageOf{
		{"a", "<p>a</p>\n"},
		{"a\n\nb\n", "<p>a</p>\n<p>b</p>\n"},
		{"# a\n## b\n### c", "<h1>a</h1>\n<h2>b</h2>\n<h3>c</h3>\n"},
		{"#\n##\n###", "<h1></h1>\n<h2></h2>\n<h3></h3>\n"},
		{"#### a", "<p>#### a</p>\n"},
		{"> a", "<blockquote>\n<p>a</p>\n</blockquote>\n"},
		{">", "<blockquote>\n</blockquote>\n"},
		{"- a", "<ul>\n<li>\n<p>a</p>\n</li>\n</ul>\n"},
		{"-", "<ul>\n<li>\n</li>\n</ul>\n"},
		{"- a\n- b\n\n-", "<ul>\n<li>\n<p>a</p>\n</li>\n<li>\n<p>b</p>\n</li>\n<li>\n</li>\n</ul>\n"},
		{"- a\n\n  b", "<ul>\n<li>\n<p>a</p>\n<p>b</p>\n</li>\n</ul>\n"},
		{"```\na\n\n b\n```", "<pre><code>a\n\n b\n</code></pre>\n"},
		{"```\n\n```", "<pre><code>\n</code></pre>\n"},
		{"```go", "<pre><code></code></pre>\n"},
	})
}

// P12: blocks within blocks; the example of the document.
func TestNestedBlocksAreWritten(t *testing.T) {
	checkPages(t, []pageOf{
		{"# x\n> - y", "<h1>x</h1>\n<blockquote>\n<ul>\n<li>\n<p>y</p>\n</li>\n</ul>\n</blockquote>\n"},
		{"> > > > a", "<blockquote>\n<blockquote>\n<blockquote>\n<p>&gt; a</p>\n</blockquote>\n</blockquote>\n</blockquote>\n"},
		{"- - a", "<ul>\n<li>\n<ul>\n<li>\n<p>a</p>\n</li>\n</ul>\n</li>\n</ul>\n"},
		{"- # a\n  ```\n  b\n  ```\n  > c\n\nd", "<ul>\n<li>\n<h1>a</h1>\n<pre><code>b\n</code></pre>\n<blockquote>\n<p>c</p>\n</blockquote>\n</li>\n</ul>\n<p>d</p>\n"},
	})
}

// P12: each thing that stands in a leaf, nested too.
func TestLeavesAreWritten(t *testing.T) {
	checkPages(t, []pageOf{
		{"*a*", "<p><em>a</em></p>\n"},
		{"a *b* c", "<p>a <em>b</em> c</p>\n"},
		{"[a](b)", "<p><a href=\"b\">a</a></p>\n"},
		{"[]()", "<p><a href=\"\"></a></p>\n"},
		{"`a`", "<p><code>a</code></p>\n"},
		{"``", "<p><code></code></p>\n"},
		{"a\nb", "<p>a\nb</p>\n"},
		{"a\\\nb", "<p>a<br>\nb</p>\n"},
		{"*a [b `c`](d)*", "<p><em>a <a href=\"d\">b <code>c</code></a></em></p>\n"},
		{"[*a*\nb\\\nc](d)", "<p><a href=\"d\"><em>a</em>\nb<br>\nc</a></p>\n"},
		{"# *a* `b` [c](d)", "<h1><em>a</em> <code>b</code> <a href=\"d\">c</a></h1>\n"},
		{"> - *a\n>   b*", "<blockquote>\n<ul>\n<li>\n<p><em>a\nb</em></p>\n</li>\n</ul>\n</blockquote>\n"},
		{"`a\nb`", "<p><code>a b</code></p>\n"},
		{"a\\*b\\<", "<p>a*b&lt;</p>\n"},
		{"```\n*a* `b` [c](d)\\\n", "<pre><code>*a* `b` [c](d)\\\n</code></pre>\n"},
	})
}

// P12: four signs, wherever a text or a code stands.
func TestSignsAreWritten(t *testing.T) {
	const signs, want = `&<>"'/&amp;`, `&amp;&lt;&gt;&quot;'/&amp;amp;`
	checkPages(t, []pageOf{
		{signs, "<p>" + want + "</p>\n"},
		{"# " + signs, "<h1>" + want + "</h1>\n"},
		{"*" + signs + "*", "<p><em>" + want + "</em></p>\n"},
		{"`" + signs + "`", "<p><code>" + want + "</code></p>\n"},
		{"[" + signs + "](a)", "<p><a href=\"a\">" + want + "</a></p>\n"},
		{"```\n" + signs, "<pre><code>" + want + "\n</code></pre>\n"},
		{"<b>\n</p>", "<p>&lt;b&gt;\n&lt;/p&gt;</p>\n"},
		{"é€😀\u00a0", "<p>é€😀\u00a0</p>\n"},
		{"\x00\xff\r\nb", "<p>\ufffd\ufffd\nb</p>\n"},
	})
}

// stay are the signs that stand as they are where a link leads. (The parentheses do, too, but none can stand there.)
const stay = "abcdefghijklmnopqrstuvwxyzABCDEFGHIJKLMNOPQRSTUVWXYZ0123456789-._~/?#=:+,;@!$'*%"

// addressed is where a link leads, worked out by other means.
func addressed(leads string) string {
	out := ""
	for _, b := range []byte(leads) {
		switch {
		case b == '&':
			out += "&amp;"
		case strings.IndexByte(stay, b) >= 0:
			out += string(rune(b))
		default:
			out += fmt.Sprintf("%%%02X", b)
		}
	}
	return out
}

// P12: where a link leads: each sign of ASCII that can stand there, and bytes beyond.
func TestAddressesAreWritten(t *testing.T) {
	for b := range 128 {
		s := string(rune(b))
		// A 0 or a carriage return is none any more, when it comes there; the others end the link, or it is none.
		if strings.Contains("\x00\r\n\t ()", s) {
			continue
		}
		want := addressed(s)
		checkPage(t, "[a]("+s+"b"+s+")", "<p><a href=\""+want+"b"+want+"\">a</a></p>\n")
	}
	checkPages(t, []pageOf{
		{"[a](" + stay + ")", "<p><a href=\"" + stay + "\">a</a></p>\n"},
		{"[a](é€😀)", "<p><a href=\"%C3%A9%E2%82%AC%F0%9F%98%80\">a</a></p>\n"},
		{"[a](\x00\xff\u00a0)", "<p><a href=\"%EF%BF%BD%EF%BF%BD%C2%A0\">a</a></p>\n"},
		{"[a](/?b=c&d=<\"e\">#f)", "<p><a href=\"/?b=c&amp;d=%3C%22e%22%3E#f\">a</a></p>\n"},
		{"[a](&amp;%26)", "<p><a href=\"&amp;amp;%26\">a</a></p>\n"},
		{"[a](\\*`b`)", "<p><a href=\"%5C*%60b%60\">a</a></p>\n"},
	})
}

// inTurn is the page of some events, worked out by other means.
func inTurn(l []api.Event) string {
	names := [...]string{"p", "h", "blockquote", "ul", "li", "pre", "em", "a"}
	signs := strings.NewReplacer("&", "&amp;", "<", "&lt;", ">", "&gt;", "\"", "&quot;")
	var out strings.Builder
	for _, e := range l {
		switch {
		case e.Kind == api.Text:
			out.WriteString(signs.Replace(e.Text))
		case e.Kind == api.Code:
			out.WriteString("<code>" + signs.Replace(e.Text) + "</code>")
		case e.Kind == api.Soft:
			out.WriteString("\n")
		case e.Kind == api.Hard:
			out.WriteString("<br>\n")
		case e.Kind == api.Link && !e.End:
			out.WriteString("<a href=\"" + addressed(e.Text) + "\">")
		case e.Kind == api.Heading:
			out.WriteString(tag(fmt.Sprintf("h%d", e.Level), e.End))
		default:
			out.WriteString(tag(names[e.Kind], e.End))
		}
	}
	page := out.String()
	for _, name := range []string{"p", "h1", "h2", "h3", "blockquote", "ul", "li", "pre"} {
		page = strings.ReplaceAll(page, "</"+name+">", "</"+name+">\n")
	}
	for _, name := range []string{"blockquote", "ul", "li"} {
		page = strings.ReplaceAll(page, "<"+name+">", "<"+name+">\n")
	}
	return strings.NewReplacer("<pre>", "<pre><code>", "</pre>", "</code></pre>").Replace(page)
}

func tag(name string, end bool) string {
	if end {
		return "</" + name + ">"
	}
	return "<" + name + ">"
}

// P12: what is written are the events that are pulled, whatever the text is.
func TestWrittenEventsAreThosePulled(t *testing.T) {
	texts := shortTexts(3)
	for _, s := range shortLeaves(3) {
		texts = append(texts, s, "# "+s, "> "+s+s, "- "+s+"\n\n  "+s, "```\n"+s, "[a]("+s+")")
	}
	for _, s := range texts {
		checkOnePage(t, ofText(s), inTurn(pulledOf(s)))
		if t.Failed() {
			t.Fatalf("of %q", s)
		}
	}
}

// checkOnePage asks for the page of a source, taken in one way.
func checkOnePage(t *testing.T, from *script, want string) {
	t.Helper()
	s := &bowl{takes: []int{16, 3}}
	if n, err := prose.Write(from, s); n != len(want) || err != nil || s.got != want {
		t.Errorf("Write = %d, %v: %q, want %q", n, err, s.got, want)
	}
	if from.reads != len(from.answers) {
		t.Errorf("Write: %d reads, want %d", from.reads, len(from.answers))
	}
}

// P3, P12: a page does not hang on how the text is cut.
func TestPagesDoNotHangOnCuts(t *testing.T) {
	const text = "# *é*\r\n\r- \x00\r\n  \xe2\x82\\\r[a](b&)"
	const want = "<h1><em>é</em></h1>\n<ul>\n<li>\n<p>\ufffd\n\ufffd\ufffd\\</p>\n</li>\n</ul>\n<p><a href=\"b&amp;\">a</a></p>\n"
	for i := range len(text) + 1 {
		for j := i; j <= len(text); j++ {
			checkOnePage(t, &script{answers: doneBehind(text[:i], text[i:j], text[j:])}, want)
			checkOnePage(t, &script{answers: doneWith(text[:i], text[i:j], text[j:])}, want)
		}
	}
}

// P13: a text without events offers nothing, not even to a sink that would fail.
func TestNothingIsWritten(t *testing.T) {
	own := errors.New("its own")
	for _, text := range []string{"", "\n", " \t", "\r\n\r", " \n\t\n\n"} {
		checkPage(t, text, "")
		s := &last{at: 1, err: own}
		if n, err := prose.Write(ofText(text), s); n != 0 || err != nil || len(s.offers) != 0 {
			t.Errorf("Write of %q = %d, %v, %d offers", text, n, err, len(s.offers))
		}
	}
}

// P13: pages of any length; those that fill their last offer, and those with one byte more or less.
func TestLengthsOfPages(t *testing.T) {
	around := len("<p></p>\n")
	for n := 1; n <= 300; n++ {
		checkPage(t, letters(n), "<p>"+letters(n)+"</p>\n")
	}
	for _, length := range []int{15, 16, 17, 31, 32, 33, 159, 160, 161} {
		s := &bowl{}
		n, err := prose.Write(ofText(letters(length-around)), s)
		if want := (length + api.MaxOffer - 1) / api.MaxOffer; n != length || err != nil || len(s.offers) != want {
			t.Errorf("Write of a page of %d bytes = %d, %v, %d offers, want %d", length, n, err, len(s.offers), want)
		}
	}
}

// P12, P13: 300 bytes are not too many, however long their page is.
func TestFullTextsAreWritten(t *testing.T) {
	checkPages(t, []pageOf{
		{strings.Repeat("\"", 300), "<p>" + strings.Repeat("&quot;", 300) + "</p>\n"},
		{strings.Repeat("#\n", 150), strings.Repeat("<h1></h1>\n", 150)},
		{strings.Repeat("-\n", 150), "<ul>\n" + strings.Repeat("<li>\n</li>\n", 150) + "</ul>\n"},
		{"a" + strings.Repeat("``", 149), "<p>a" + strings.Repeat("<code></code>", 149) + "</p>\n"},
		{"[a](" + strings.Repeat("^", 295) + ")", "<p><a href=\"" + strings.Repeat("%5E", 295) + "\">a</a></p>\n"},
	})
}

// sinkOf is a sink that is a function.
type sinkOf func(b []byte) (int, error)

func (f sinkOf) Take(b []byte) (int, error) { return f(b) }

// P2: the bytes are the sink's own: it may keep them, too, write into them later, and make them longer.
func TestOffersAreTheSinks(t *testing.T) {
	const text, want = "a *b* [c](d)\n\n- e", "<p>a <em>b</em> <a href=\"d\">c</a></p>\n<ul>\n<li>\n<p>e</p>\n</li>\n</ul>\n"
	for _, most := range []int{1, 3, 16} {
		var kept [][]byte
		got := ""
		n, err := prose.Write(ofText(text), sinkOf(func(b []byte) (int, error) {
			for _, k := range kept {
				scribble(k)
			}
			n := min(most, len(b))
			got += string(b[:n])
			_ = append(b, "more"...)
			kept = append(kept, b)
			return n, nil
		}))
		if n != len(want) || err != nil || got != want {
			t.Errorf("Write to one who takes %d = %d, %v: %q, want %q", most, n, err, got, want)
		}
		for i, k := range kept {
			if i < len(kept)-1 && strings.Trim(string(k), "!") != "" {
				t.Errorf("offer %d was written into: %q", i, k)
			}
		}
	}
}

// checkSourceFails asks for 0 and an error, and that nothing is offered.
func checkSourceFails(t *testing.T, answers []answer, right func(error) bool) {
	t.Helper()
	s := &bowl{}
	for _, to := range []api.Sink{s, nil} {
		n, err := prose.Write(&script{answers: answers}, to)
		if n != 0 || !right(err) {
			t.Errorf("Write of %v = %d, %v", answers, n, err)
		}
	}
	if len(s.offers) != 0 {
		t.Errorf("Write of %v offers %q", answers, s.offers)
	}
}

// P12: where gathering fails, the answer is 0 and its error, and nothing is offered of what had come before.
func TestWriteOfSourcesThatFail(t *testing.T) {
	own := errors.New("its own")
	of := func(want error, n int) func(error) bool {
		return func(err error) bool {
			r, ok := err.(*api.ReadError)
			return ok && r.Err == want && r.N == n && errors.Is(err, want)
		}
	}
	is := func(want error) func(error) bool { return func(err error) bool { return err == want } }
	checkSourceFails(t, failing(own), of(own, 0))
	checkSourceFails(t, failing(own, "# a\n"), of(own, 4))
	checkSourceFails(t, []answer{{piece: "# a\n", done: true, err: own}}, of(own, 0))
	checkSourceFails(t, failing(api.ErrSink, "a"), of(api.ErrSink, 1))
	checkSourceFails(t, doneWith(letters(301)), is(api.ErrLong))
	checkSourceFails(t, doneWith(each(301, "a")...), is(api.ErrLong))
	checkSourceFails(t, pieces("", "", "", "a"), is(api.ErrIdle))
	checkSourceFails(t, pieces("# a\n", "", "", ""), is(api.ErrIdle))
	never := sinkOf(func(b []byte) (int, error) {
		t.Errorf("offered %q", b)
		return len(b), nil
	})
	if n, err := prose.Write(ask(func() (string, bool, error) { return "", false, nil }), never); n != 0 || err != api.ErrIdle {
		t.Errorf("Write of empty pieces without end = %d, %v", n, err)
	}
	if n, err := prose.Write(ask(func() (string, bool, error) { return "a", false, nil }), never); n != 0 || err != api.ErrLong {
		t.Errorf("Write of pieces without end = %d, %v", n, err)
	}
}

// P1: a source that is nil has ended, a sink that is nil takes all.
func TestWriteWithoutSourceOrSink(t *testing.T) {
	s := &bowl{}
	if n, err := prose.Write(nil, s); n != 0 || err != nil || len(s.offers) != 0 {
		t.Errorf("Write without a source = %d, %v, offers %q", n, err, s.offers)
	}
	if n, err := prose.Write(nil, nil); n != 0 || err != nil {
		t.Errorf("Write without both = %d, %v", n, err)
	}
	from := ofText("a *b*")
	if n, err := prose.Write(from, nil); n != len("<p>a <em>b</em></p>\n") || err != nil || from.reads != 1 {
		t.Errorf("Write without a sink = %d, %v, %d reads", n, err, from.reads)
	}
}

const (
	toFail     = "# a *b* c\n> [d](e)"
	toFailPage = "<h1>a <em>b</em> c</h1>\n<blockquote>\n<p><a href=\"e\">d</a></p>\n</blockquote>\n"
)

// checkSinkFails asks, of each offer, that Write ends there: with a WriteError of just that error, and the number of bytes that had been taken before.
func checkSinkFails(t *testing.T, takes []int, answer func(size int) (int, error), want error) {
	t.Helper()
	offers := offersOf(toFailPage, takes)
	for at := 1; at <= len(offers); at++ {
		said, err := answer(len(offers[at-1]))
		s := &last{bowl: bowl{takes: takes}, at: at, n: said, err: err}
		n, err := prose.Write(ofText(toFail), s)
		taken := s.taken()
		w, ok := err.(*api.WriteError)
		if !ok || w.Err != want || w.N != taken || n != taken || !errors.Is(err, want) {
			t.Errorf("taking %v, the sink says %d at offer %d: Write = %d, %#v, want %d and a WriteError of %v", takes, said, at, n, err, taken, want)
		}
		if !slices.Equal(s.offers, offers[:at]) {
			t.Errorf("taking %v, the sink says %d at offer %d: offered %q, want %q", takes, said, at, s.offers, offers[:at])
		}
	}
}

// P13: a sink that fails at any of its offers, whatever number comes with the error.
func TestSinksThatFail(t *testing.T) {
	for _, own := range []error{errors.New("its own"), api.ErrSink, api.ErrLong, &api.WriteError{Count: api.Count{N: 7}, Err: api.ErrIdle}} {
		for _, takes := range waysOfTaking() {
			for _, said := range []int{math.MinInt, -1, 0, 1, 2, 15, 16, 17, math.MaxInt} {
				checkSinkFails(t, takes, func(int) (int, error) { return said, own }, own)
			}
			checkSinkFails(t, takes, func(size int) (int, error) { return size, own }, own)
		}
	}
}

// P13: a sink that says a number below 1, or above what it was offered, which may be less than 16.
func TestSinksThatLie(t *testing.T) {
	for _, takes := range waysOfTaking() {
		for _, said := range []int{math.MinInt, -16, -1, 0, 17, math.MaxInt} {
			checkSinkFails(t, takes, func(int) (int, error) { return said, nil }, api.ErrSink)
		}
		checkSinkFails(t, takes, func(size int) (int, error) { return size + 1, nil }, api.ErrSink)
		checkSinkFails(t, takes, func(size int) (int, error) { return -size, nil }, api.ErrSink)
	}
}

// P13: the page of the tests above is what is written, if nothing fails.
func TestSinksThatDoNotFail(t *testing.T) { checkPage(t, toFail, toFailPage) }

// P1, P13: a sink that panics has failed.
func TestSinksThatPanic(t *testing.T) {
	for at := 1; at <= len(offersOf(toFailPage, []int{5})); at++ {
		s := &last{bowl: bowl{takes: []int{5}}, at: at, do: func() { panic("its own") }}
		n, err := prose.Write(ofText(toFail), s)
		w, ok := err.(*api.WriteError)
		if !ok || w.N != s.taken() || n != s.taken() || len(s.offers) != at {
			t.Errorf("the sink panics at offer %d: Write = %d, %v, %d offers", at, n, err, len(s.offers))
		}
	}
	var none *bowl
	for _, to := range []api.Sink{none, sinkOf(nil)} {
		n, err := prose.Write(ofText("a"), to)
		if w, ok := err.(*api.WriteError); n != 0 || !ok || w.N != 0 {
			t.Errorf("Write = %d, %v, want a WriteError", n, err)
		}
	}
}

// P1: a source that panics has failed, ahead of any offer.
func TestWriteOfSourcesThatPanic(t *testing.T) {
	s := &bowl{}
	n, err := prose.Write(ask(func() (string, bool, error) { panic("its own") }), s)
	if _, ok := err.(*api.ReadError); n != 0 || !ok || len(s.offers) != 0 {
		t.Errorf("Write = %d, %v, %d offers", n, err, len(s.offers))
	}
}

// P2: a sink that itself writes does not disturb what is written to it.
func TestSinksThatWrite(t *testing.T) {
	got := ""
	n, err := prose.Write(ofText(toFail), sinkOf(func(b []byte) (int, error) {
		checkOnePage(t, ofText("*a*\n\n`b`"), "<p><em>a</em></p>\n<p><code>b</code></p>\n")
		got += string(b[:1])
		return 1, nil
	}))
	if n != len(toFailPage) || err != nil || got != toFailPage {
		t.Errorf("Write = %d, %v: %q", n, err, got)
	}
}

// P2: a call that fails does not make another one fail, and calls side by side do not see each other.
func TestWritesSideBySide(t *testing.T) {
	var all sync.WaitGroup
	for range 8 {
		all.Go(func() {
			for at := range 20 {
				prose.Write(ofText(toFail), &last{at: at})
				checkOnePage(t, ofText(toFail), toFailPage)
			}
		})
	}
	all.Wait()
}

// P2: an error is the caller's: writing into it changes no other one.
func TestWriteErrorsAreTheCallers(t *testing.T) {
	fail := func() *api.WriteError {
		_, err := prose.Write(ofText("a"), &last{at: 1})
		w, ok := err.(*api.WriteError)
		if !ok {
			t.Fatalf("Write = %v, want a WriteError", err)
		}
		return w
	}
	mine := fail()
	mine.N, mine.Err = 99, nil
	if w := fail(); w.N != 0 || w.Err != api.ErrSink {
		t.Errorf("a later error changed: %#v", w)
	}
}

// P12, P13: as it is asked from outside.
func TestWriteFromOutside(t *testing.T) {
	const text, page = "a *b* c", "<p>a <em>b</em> c</p>\n"
	in := plain.In{Text: text, Cuts: []int{1, 0, 2}, With: true}
	for _, c := range []struct {
		in   plain.In
		out  plain.Out
		none int
		want plain.Written
	}{
		{in, plain.Out{}, 0, plain.Written{Count: 22, Got: page, Offers: 2, Most: 16, Reads: 4}},
		{in, plain.Out{Takes: []int{1}}, 0, plain.Written{Count: 22, Got: page, Offers: 22, Most: 16, Reads: 4}},
		{in, plain.Out{}, 1, plain.Written{}},
		{in, plain.Out{}, 2, plain.Written{Count: 22, Reads: 4}},
		{plain.In{Text: " \n"}, plain.Out{}, 0, plain.Written{Reads: 2}},
		{in, plain.Out{Takes: []int{5}, FailAt: 3}, 0, plain.Written{Told: plain.Told{Err: plain.Write, N: 10}, Count: 10, Got: page[:15], Offers: 3, Most: 16, Reads: 4}},
		{in, plain.Out{LieAt: 2, Lie: 7}, 0, plain.Written{Told: plain.Told{Err: plain.Sink, N: 16}, Count: 16, Got: page, Offers: 2, Most: 16, Reads: 4}},
		{plain.In{Text: text, Cuts: []int{3}, FailAt: 2}, plain.Out{}, 0, plain.Written{Told: plain.Told{Err: plain.Read, N: 3}, Reads: 2}},
		{plain.In{Text: letters(301)}, plain.Out{}, 0, plain.Written{Told: plain.Told{Err: plain.Long}, Reads: 1}},
		{plain.In{Cuts: []int{0, 0, 0}}, plain.Out{}, 0, plain.Written{Told: plain.Told{Err: plain.Idle}, Reads: 3}},
	} {
		if got := plain.Html(c.in, c.out, c.none); got != c.want {
			t.Errorf("Html(%v, %v, %d) = %+v, want %+v", c.in, c.out, c.none, got, c.want)
		}
	}
}
