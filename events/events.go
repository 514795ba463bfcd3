// Package events has what all that tells events needs.
package events

import "prose/api"

// Within tells a beginning, what is in it, and its end.
func Within(e api.Event, do func(api.Event), inside func()) {
	do(e)
	inside()
	// Where a link leads is told at its beginning alone.
	do(api.Event{Kind: e.Kind, End: true, Level: e.Level})
}

// Text tells a text, if it is not empty.
func Text(text string, do func(api.Event)) {
	if text != "" {
		do(api.Event{Kind: api.Text, Text: text})
	}
}
