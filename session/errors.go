package session

import (
	"errors"
	"strconv"

	"standish/api"
)

var (
	errArg  = errors.New("this does not lie in the text")
	errForm = errors.New("the text has an element that is no character")
	errFull = errors.New("there is no room for this")
)

// layerError is the refusal of a lower layer, which is returned as it is.
type layerError struct {
	layer string
	code  api.Errno
}

func (e layerError) Error() string {
	return e.layer + " returned error " + strconv.Itoa(int(e.code))
}

// stepError is an error with what was being done when it came up.
type stepError struct {
	error
	step string
}

func (e stepError) Error() string { return e.step + ": " + e.error.Error() }

func (e stepError) Unwrap() error { return e.error }

// codeOf returns the code of an error, however it is wrapped, and OK for none.
func codeOf(err error) api.Errno {
	var lower layerError
	switch {
	case errors.As(err, &lower):
		return lower.code
	case errors.Is(err, errArg):
		return api.ErrArg
	case errors.Is(err, errForm):
		return api.ErrForm
	case errors.Is(err, errFull):
		return api.ErrFull
	}
	return api.OK
}
