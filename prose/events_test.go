package prose_test

import (
	"slices"
	"strconv"
	"strings"
	"sync"
	"testing"

	"prose/api"
)

// told is events as a text, each with all that it has.
func told(l []api.Event) string {
	names := [...]string{"Paragraph", "Heading", "Quote", "List", "Item", "Block", "Emphasis", "Link", "Text", "Code", "Soft", "Hard"}
	var out []string
	for _, e := range l {
		s := names[e.Kind]
		if e.End {
			s = "/" + s
		}
		if e.Level != 0 {
			s += strconv.Itoa(e.Level)
		}
		if e.Text != "" {
			s += strconv.Quote(e.Text)
		}
		out = append(out, s)
	}
	return strings.Join(out, " ")
}

// around is the beginning of something, what is in it, and its end.
func around(e api.Event, inside ...[]api.Event) []api.Event {
	end := e
	end.End = true
	return append(append([]api.Event{e}, slices.Concat(inside...)...), end)
}

func text(s string) []api.Event {
	if s == "" {
		return nil
	}
	return []api.Event{{Kind: api.Text, Text: s}}
}

// several are events one behind the other.
func several(l ...[]api.Event) []api.Event { return slices.Concat(l...) }

// eventsOf is a text and what is told of it.
type eventsOf struct {
	text string
	want []api.Event
}

func checkEvents(t *testing.T, call func(string) []api.Event, cases []eventsOf) {
	t.Helper()
	for _, c := range cases {
		if got := call(c.text); !slices.Equal(got, c.want) {
			t.Errorf("of %q:\n got %s\nwant %s", c.text, told(got), told(c.want))
		}
	}
}

// checkCallers asks several times, and writes into one of the answers.
func checkCallers(t *testing.T, call func(string) []api.Event, c eventsOf) {
	t.Helper()
	mine := call(c.text)
	other := call(c.text)
	for i := range mine {
		mine[i] = api.Event{Text: "mine"}
	}
	_ = append(mine[:0], api.Event{Text: "more"})
	call("> *else")
	if !slices.Equal(other, c.want) {
		t.Errorf("an answer changed with another one: %s", told(other))
	}
	if got := call(c.text); !slices.Equal(got, c.want) {
		t.Errorf("a later answer changed: %s", told(got))
	}
}

// checkSideBySide asks many times at once, each with a word of its own.
func checkSideBySide(t *testing.T, call func(string) []api.Event, of func(word string) eventsOf) {
	t.Helper()
	var all sync.WaitGroup
	for i := range 8 {
		all.Go(func() {
			c := of(strconv.Itoa(i))
			for range 50 {
				if got := call(c.text); !slices.Equal(got, c.want) {
					t.Errorf("got %s, want %s", told(got), told(c.want))
				}
			}
		})
	}
	all.Wait()
}
