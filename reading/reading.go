// Package reading reads sources to their end.
package reading

import (
	"errors"
	"strings"

	"prose/api"
)

var errPanic = errors.New("the source panicked")

// All reads a source to its end: all its pieces together, as they came.
func All(s api.Source) (string, error) {
	if s == nil {
		return "", nil
	}
	var got strings.Builder
	idle := 0
	for {
		piece, done, err := read(s)
		if err != nil {
			return "", failed(got.Len(), err)
		}
		// Asked ahead of keeping the piece: it may be of any size.
		if len(piece) > api.MaxInput-got.Len() {
			return "", api.ErrLong
		}
		got.WriteString(piece)
		if done {
			return got.String(), nil
		}
		idle = idleBehind(piece, idle)
		if idle > api.MaxIdle {
			return "", api.ErrIdle
		}
	}
}

// read asks a source once. The source is not the program's own, and no call may panic: one that panics has failed.
func read(s api.Source) (piece string, done bool, err error) {
	defer func() {
		if recover() != nil {
			piece, done, err = "", false, errPanic
		}
	}()
	return s.Read()
}

// failed is the error of a source that failed behind n bytes.
func failed(n int, err error) error {
	return &api.ReadError{Count: api.Count{N: n}, Err: err}
}

// idleBehind is how many empty pieces stand one behind the other, this one the last.
func idleBehind(piece string, idle int) int {
	if piece == "" {
		return idle + 1
	}
	return 0
}
