package reading

import (
	"errors"
	"testing"

	"prose/api"
)

// ask is a source that is a function.
type ask func() (string, bool, error)

func (f ask) Read() (string, bool, error) { return f() }

// The bytes come out as they came in: making them regular is not for here, as a piece may end within a rune.
func TestAllLeavesBytesAsTheyCame(t *testing.T) {
	l := []string{"\xc3", "\xa9\r", "\n\x00\xff"}
	got, err := All(ask(func() (string, bool, error) {
		p := l[0]
		l = l[1:]
		return p, len(l) == 0, nil
	}))
	if want := "é\r\n\x00\xff"; got != want || err != nil {
		t.Errorf("All = %q, %v, want %q", got, err, want)
	}
}

func TestAllOfNone(t *testing.T) {
	if got, err := All(nil); got != "" || err != nil {
		t.Errorf("All(nil) = %q, %v", got, err)
	}
}

func TestAllOfOneThatPanics(t *testing.T) {
	for _, with := range []any{"a text", errors.New("an error"), nil} {
		reads := 0
		got, err := All(ask(func() (string, bool, error) {
			reads++
			if reads == 3 {
				panic(with)
			}
			return "ab", false, nil
		}))
		var r *api.ReadError
		if got != "" || !errors.As(err, &r) || r.N != 4 || !errors.Is(err, errPanic) || reads != 3 {
			t.Errorf("All of a source that panics with %v = %q, %v, %d reads", with, got, err, reads)
		}
	}
}
