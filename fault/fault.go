// Package fault: errors of one thing among many, told at its place there: what the packages that ask others about each of a list have in common.
package fault

import (
	"errors"

	"floodgate/api"
)

// At this place, an error. The place that it may have of its own is left aside: it is one in another list.
func At(place int, err error) error {
	var own *api.Fault
	if errors.As(err, &own) {
		err = own.Err
	}
	return &api.Fault{At: place, Err: err}
}
