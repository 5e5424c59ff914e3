package session

import (
	"errors"
	"strconv"
	"testing"

	"standish/api"
)

// TestP191WrappedErrors is that the code of an error is found however often it is wrapped, and what was being done is told, the outermost step first.
func TestP191WrappedErrors(t *testing.T) {
	all := []struct {
		err  error
		code api.Errno
		told string
	}{
		{errArg, api.ErrArg, "this does not lie in the text"},
		{errForm, api.ErrForm, "the text has an element that is no character"},
		{errFull, api.ErrFull, "there is no room for this"},
		{layerError{"tree", api.ErrFull}, api.ErrFull, "tree returned error 3"},
		{layerError{"expand", api.ErrForm}, api.ErrForm, "expand returned error 1"},
		{layerError{"expand", 99}, 99, "expand returned error 99"},
	}
	for _, w := range all {
		err, told := w.err, w.told
		for n := range 20 {
			if got := codeOf(err); got != w.code || err.Error() != told || !errors.Is(err, w.err) {
				t.Errorf("%q, wrapped %d times: %d, %q, want %d", w.told, n, got, err.Error(), w.code)
			}
			err, told = stepError{err, "step " + strconv.Itoa(n)}, "step "+strconv.Itoa(n)+": "+told
		}
	}
	if got := codeOf(nil); got != api.OK {
		t.Errorf("no error: %d", got)
	}
}
