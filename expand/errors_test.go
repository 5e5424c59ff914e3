package expand

import (
	"errors"
	"testing"
)

// TestP172WrappedErrors is that an error is found however often it is wrapped, and tells the nodes at which it came up, the outermost first.
func TestP172WrappedErrors(t *testing.T) {
	err := error(errFull)
	for node := range 20 {
		err = nodeError{err, node}
		if !errors.Is(err, errFull) || errors.Is(err, errForm) {
			t.Fatalf("wrapped %d times: %v", node+1, err)
		}
	}
	if got, want := (nodeError{nodeError{errFull, 7}, 2}).Error(), "live node 2: live node 7: there is no room for this"; got != want {
		t.Errorf("%q, want %q", got, want)
	}
}
