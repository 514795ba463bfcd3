package prose_test

import (
	"strings"
	"testing"

	"prose/plain"
)

// P1: no call panics, and each ends: at texts that begin much and end little, without sources and sinks, and with a sink that lies.
func TestCallsEndAndDoNotPanic(t *testing.T) {
	for _, text := range []string{"", "\n", "a", "\xff\x00\r", "# ", "```", "> > > > a", "- - - - a", "- a\n\n  b", "*a *", "[a](", "`", "\\", strings.Repeat("[*`\\", 75), strings.Repeat(">", 301)} {
		plain.Blocks(text)
		plain.Inline(text)
		for _, none := range []bool{false, true} {
			pull(plain.New(plain.In{Text: text}, none))
		}
		for none := range 3 {
			plain.Html(plain.In{Text: text}, plain.Out{Takes: []int{1, 5}}, none)
			plain.Html(plain.In{Text: text}, plain.Out{LieAt: 1, Lie: -1}, none)
			plain.Html(plain.In{Text: text}, plain.Out{FailAt: 2}, none)
		}
	}
}

// pull asks a parser for all there is, and again behind its end.
func pull(p *plain.Parser) {
	p.Err()
	p.Next()
	p.All(2)
	p.All(0)
	p.Next()
	p.Err()
}
