package fault_test

import (
	"testing"

	"floodgate/api"
	"floodgate/fault"
)

// P3, P80, P100: an error at a place, its own one aside.
func TestAt(t *testing.T) {
	for _, err := range []error{api.ErrBound, api.ErrShape, api.ErrNone, api.ErrOld} {
		own := &api.Fault{At: 7, Err: err}
		for _, e := range []error{err, own} {
			for _, place := range []int{0, 3, 7, 99} {
				f, ok := fault.At(place, e).(*api.Fault)
				if !ok || f.At != place || f.Err != err {
					t.Error(e, place, f)
				}
			}
		}
		if *own != (api.Fault{At: 7, Err: err}) { // it is only read
			t.Error(own)
		}
	}
}
