// Package offering offers texts to sinks, a few bytes at a time.
package offering

import (
	"errors"
	"iter"

	"prose/api"
)

var errPanic = errors.New("the sink panicked")

// All offers a sink all pieces together, and answers how many bytes it took.
func All(to api.Sink, pieces iter.Seq[string]) (int, error) {
	o := offers{to: to}
	for piece := range pieces {
		o.left += piece
		// What does not fill an offer waits for what follows.
		if err := o.whileLeft(api.MaxOffer); err != nil {
			return o.taken, err
		}
	}
	err := o.whileLeft(1)
	return o.taken, err
}

// offers are those that one sink is made.
type offers struct {
	to    api.Sink
	left  string // not taken yet
	taken int    // how many bytes were
}

// whileLeft offers, as long as so many bytes are left.
func (o *offers) whileLeft(n int) error {
	for len(o.left) >= n {
		if err := o.next(); err != nil {
			return err
		}
	}
	return nil
}

// next makes one offer.
func (o *offers) next() error {
	size := min(len(o.left), api.MaxOffer)
	// New at each offer: the bytes are the sink's, to write into and to keep.
	b := make([]byte, size)
	copy(b, o.left)
	n, err := take(o.to, b)
	if err != nil {
		return failed(o.taken, err)
	}
	if n < 1 || n > size {
		return failed(o.taken, api.ErrSink)
	}
	o.left = o.left[n:]
	o.taken += n
	return nil
}

// take asks a sink once; without one, all is taken. The sink is not the program's own, and no call may panic: one that panics has failed.
func take(to api.Sink, b []byte) (n int, err error) {
	if to == nil {
		return len(b), nil
	}
	defer func() {
		if recover() != nil {
			n, err = 0, errPanic
		}
	}()
	return to.Take(b)
}

// failed is the error of a sink that failed behind n bytes.
func failed(n int, err error) error {
	return &api.WriteError{Count: api.Count{N: n}, Err: err}
}
