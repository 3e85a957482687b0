package given

import (
	"errors"
	"testing"

	"floodgate/api"
	"floodgate/plain"
)

// P5: the numbers and texts of package api.
func TestNumbers(t *testing.T) {
	got := [...]int{api.MaxFlows, api.MaxPackets, api.MaxSize, api.MaxTime, api.MaxBurst, api.MaxRate, api.MaxLines, api.MaxPer, api.MaxQuantum, api.MaxText, api.Workers, api.Scale}
	want := [...]int{8, 300, 1500, 1 << 40, 20000, 100000, 6, 1000, 3000, 100, 16, 12}
	if got != want {
		t.Error(got, want)
	}
}

func TestErrors(t *testing.T) {
	for i, c := range []struct {
		err  error
		text string
	}{
		{api.ErrText, "floodgate: text"},
		{api.ErrBound, "floodgate: bound"},
		{api.ErrShape, "floodgate: shape"},
		{api.ErrNone, "floodgate: none"},
		{api.ErrOld, "floodgate: old"},
		{api.ErrOver, "floodgate: over"},
		{api.ErrIdle, "floodgate: idle"},
		{api.ErrTurn, "floodgate: turn"},
		{api.ErrKind, "floodgate: kind"},
	} {
		if c.err.Error() != c.text {
			t.Error(c.err, c.text)
		}
		if code, at := plain.Code(c.err); code != i+1 || at != -1 {
			t.Error(c.text, code, at)
		}
		fault := &api.Fault{At: 7, Err: c.err}
		if code, at := plain.Code(fault); code != i+1 || at != 7 || fault.Error() != c.text || !errors.Is(fault, c.err) {
			t.Error(c.text, code, at, fault)
		}
	}
	if code, at := plain.Code(nil); code != 0 || at != -1 {
		t.Error(code, at)
	}
	if code, at := plain.Code(errors.New("another one")); code != -1 || at != -1 {
		t.Error(code, at)
	}
}
