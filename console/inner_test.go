package console

import (
	"errors"
	"math"
	"testing"

	"assent/api"
)

// TestGivenUp: a line that is given up is answered by its number. No layer below panics; if one did, the line would be answered all the same.
func TestGivenUp(t *testing.T) {
	for _, e := range []api.Errno{1, api.ErrWord, api.ErrNode, -3} {
		if got := numberOf(refused{e}); got != e {
			t.Errorf("error %d, want %d", got, e)
		}
	}
	for _, cause := range []any{"a text", errors.New("an error"), api.ErrWord, 7} {
		if got := numberOf(cause); got != api.ErrDead {
			t.Errorf("%v: error %d", cause, got)
		}
	}
}

// TestText: numbers of all kinds by their digits.
func TestText(t *testing.T) {
	for got, want := range map[string]string{
		text(0): "0", text(-1): "-1", text(math.MaxInt): "9223372036854775807", text(math.MinInt): "-9223372036854775808",
		text(uint64(math.MaxUint64)): "18446744073709551615", text(api.Addr(10)): "10", text(api.ErrLine): "201",
	} {
		if got != want {
			t.Errorf("%s, want %s", got, want)
		}
	}
}
