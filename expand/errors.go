package expand

import (
	"errors"
	"strconv"
)

var (
	errForm = errors.New("these arguments may not be")
	errFull = errors.New("there is no room for this")
)

// nodeError is an error with the live node at which it came up. A text that is told inside of another one adds a wrapper of its own.
type nodeError struct {
	error
	node int
}

func (e nodeError) Error() string {
	return "live node " + strconv.Itoa(e.node) + ": " + e.error.Error()
}

func (e nodeError) Unwrap() error { return e.error }
