// Package pulling tells the events of texts one by one.
package pulling

import (
	"prose/api"
	"prose/blocks"
	"prose/leaves"
)

// Events are those of a text that are not told yet.
type Events struct {
	left   []step
	told   int // how many events of the leaf that the first step is
	inside map[blocks.Span][]api.Event
}

// step is an event of the blocks, or a leaf, whose own events take its place.
type step struct {
	event api.Event
	leaf  blocks.Span // of no lines, if it is none
}

// Of are the events of a regular text. Its blocks are found at once; what stands in a leaf is found when it is come to.
func Of(text string) Events {
	e := Events{inside: map[blocks.Span][]api.Event{}}
	blocks.Each(text,
		func(found api.Event) { e.left = append(e.left, step{event: found}) },
		func(leaf string, at blocks.Span) {
			e.left = append(e.left, step{api.Event{Kind: api.Text, Text: leaf}, at})
		})
	return e
}

// Next tells the next event, and true; behind the last one no event and false.
func (e *Events) Next() (api.Event, bool) {
	for len(e.left) > 0 {
		first := e.left[0]
		if first.leaf == (blocks.Span{}) {
			e.left = e.left[1:]
			return first.event, true
		}
		l := e.standsIn(first)
		if e.told < len(l) {
			e.told++
			return l[e.told-1], true
		}
		e.left, e.told = e.left[1:], 0
	}
	return api.Event{}, false
}

// standsIn is what stands in a leaf. It is kept, as it is asked for at each of its events.
func (e *Events) standsIn(s step) []api.Event {
	l, ok := e.inside[s.leaf]
	if !ok {
		leaves.Each(s.event.Text, func(found api.Event) { l = append(l, found) })
		e.inside[s.leaf] = l
	}
	return l
}
