// Package prose: a small markup: see DOC.md.
package prose

import (
	"iter"

	"prose/api"
	"prose/blocks"
	"prose/events"
	"prose/html"
	"prose/leaves"
	"prose/offering"
	"prose/pulling"
	"prose/reading"
	"prose/regular"
)

// Gather reads a text from a source, and makes it regular (P3, P4).
func Gather(s api.Source) (string, error) {
	raw, err := reading.All(s)
	if err != nil {
		return "", err
	}
	return regular.Text(raw), nil
}

// Blocks tells the blocks of a text, which is made regular first (P5 to P7).
func Blocks(text string) []api.Event {
	return listed(text, func(text string, do func(api.Event)) {
		blocks.Each(text, do, func(leaf string, _ blocks.Span) { events.Text(leaf, do) })
	})
}

// Inline tells what stands in a leaf, which is made regular first (P8, P9).
func Inline(text string) []api.Event {
	return listed(text, leaves.Each)
}

// listed is what each finds in a text, made regular, as a list.
func listed(text string, each func(string, func(api.Event))) []api.Event {
	var out []api.Event
	each(regular.Text(text), func(e api.Event) { out = append(out, e) })
	return out
}

// Parser is pulled for events.
type Parser struct {
	source   api.Source // nil, once it is gathered
	gathered bool
	err      error
	events   pulling.Events
}

// New is a parser of what a source gives (P10).
func New(s api.Source) *Parser { return &Parser{source: s} }

// gather gathers the source, if no call did before.
func (p *Parser) gather() {
	if p.gathered {
		return
	}
	// Said ahead of reading: the source may be one that asks this parser.
	p.gathered = true
	text, err := Gather(p.source)
	p.source = nil
	p.err = err
	p.events = pulling.Of(text)
}

// Next pulls the next event (P10, P11).
func (p *Parser) Next() (api.Event, bool) {
	if p == nil {
		return api.Event{}, false
	}
	p.gather()
	return p.events.Next()
}

// Err tells why there are no events (P10).
func (p *Parser) Err() error {
	if p == nil {
		return nil
	}
	p.gather()
	return p.err
}

// All goes through all events that are left (P11).
func (p *Parser) All() iter.Seq[api.Event] {
	return func(yield func(api.Event) bool) {
		for {
			e, ok := p.Next()
			if !ok || !yield(e) {
				return
			}
		}
	}
}

// Write writes what a source gives as HTML (P12, P13).
func Write(s api.Source, to api.Sink) (int, error) {
	p := New(s)
	if err := p.Err(); err != nil {
		return 0, err
	}
	return offering.All(to, html.Of(p.All()))
}
