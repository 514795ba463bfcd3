package offering

import (
	"errors"
	"slices"
	"strings"
	"testing"

	"prose/api"
)

// takes is a sink that is a function.
type takes func(b []byte) (int, error)

func (f takes) Take(b []byte) (int, error) { return f(b) }

const letters = "abcdefghijklmnopqrstuvwxyzABCDEFGHIJKLMN"

// offered are the offers of some pieces to a sink that takes n bytes of each offer, if there are as many.
func offered(t *testing.T, n int, pieces ...string) []string {
	t.Helper()
	var l []string
	count, err := All(takes(func(b []byte) (int, error) {
		l = append(l, string(b))
		if cap(b) != len(b) {
			t.Errorf("%d bytes are offered, but the sink reaches %d", len(b), cap(b))
		}
		return min(n, len(b)), nil
	}), slices.Values(pieces))
	if want := len(strings.Join(pieces, "")); count != want || err != nil {
		t.Errorf("All of %q = %d, %v, want %d", pieces, count, err, want)
	}
	return l
}

// P13: what is offered does not hang on how the pieces are cut, and none of it is empty.
func TestOffersAreFilled(t *testing.T) {
	for _, pieces := range [][]string{{letters}, strings.Split(letters, ""), {"", letters[:16], "", letters[16:32], letters[32:], ""}, {letters[:15], letters[15:33], letters[33:]}} {
		if got, want := offered(t, api.MaxOffer, pieces...), []string{letters[:16], letters[16:32], letters[32:]}; !slices.Equal(got, want) {
			t.Errorf("offers of %q to one who takes all: %q", pieces, got)
		}
		if got, want := offered(t, 14, pieces...), []string{letters[:16], letters[14:30], letters[28:]}; !slices.Equal(got, want) {
			t.Errorf("offers of %q to one who takes 14: %q", pieces, got)
		}
	}
	if got, want := offered(t, 1, "ab", "c"), []string{"abc", "bc", "c"}; !slices.Equal(got, want) {
		t.Errorf("offers to one who takes 1: %q", got)
	}
}

func TestNothingIsNotOffered(t *testing.T) {
	for _, pieces := range [][]string{nil, {""}, {"", "", ""}} {
		if got := offered(t, 1, pieces...); len(got) != 0 {
			t.Errorf("offers of %q: %q", pieces, got)
		}
	}
}

// P13: behind a sink's failure no piece is asked for.
func TestPiecesBehindAFailure(t *testing.T) {
	own := errors.New("its own")
	asked := 0
	n, err := All(takes(func(b []byte) (int, error) { return 0, own }), func(yield func(string) bool) {
		for asked < 5 {
			asked++
			if !yield("0123456789") {
				return
			}
		}
	})
	// Two pieces fill the first offer.
	if n != 0 || !errors.Is(err, own) || asked != 2 {
		t.Errorf("All = %d, %v, %d pieces asked for", n, err, asked)
	}
}

// P13: a number below 1, or above what was offered, be that less than 16 bytes.
func TestAllToOneThatLies(t *testing.T) {
	for _, said := range []int{-1, 0, 9, 16, 17} {
		offers := 0
		n, err := All(takes(func(b []byte) (int, error) {
			offers++
			if offers == 3 {
				return said, nil
			}
			return 16, nil
		}), slices.Values([]string{letters}))
		var w *api.WriteError
		if n != 32 || !errors.As(err, &w) || w.N != 32 || w.Err != api.ErrSink || offers != 3 {
			t.Errorf("All to a sink that says %d of 8 = %d, %v, %d offers", said, n, err, offers)
		}
	}
}

// P1: without a sink all is taken.
func TestAllToNone(t *testing.T) {
	for n := range len(letters) + 1 {
		if got, err := All(nil, slices.Values([]string{letters[:n], "", letters[n:]})); got != len(letters) || err != nil {
			t.Errorf("All to nil = %d, %v", got, err)
		}
	}
}

// P1: a sink that panics has failed.
func TestAllToOneThatPanics(t *testing.T) {
	for _, with := range []any{"a text", errors.New("an error"), nil} {
		offers := 0
		n, err := All(takes(func(b []byte) (int, error) {
			offers++
			if offers == 3 {
				panic(with)
			}
			return 5, nil
		}), slices.Values([]string{letters}))
		var w *api.WriteError
		if n != 10 || !errors.As(err, &w) || w.N != 10 || w.Err != errPanic || offers != 3 {
			t.Errorf("All to a sink that panics with %v = %d, %v, %d offers", with, n, err, offers)
		}
	}
}
