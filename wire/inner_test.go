package wire

import (
	"testing"

	"assent/api"
)

// What no call from outside comes to: a digest that is zero, and a form above its limit.

func TestNoBlockHasTheIdOfNone(t *testing.T) {
	if got := someId(api.Hash{}); got != (api.Hash{31: 1}) {
		t.Errorf("W16: %x", got)
	}
	for _, h := range []api.Hash{{31: 1}, {0: 1}, {31: 2}} {
		if got := someId(h); got != h {
			t.Errorf("W16: %x became %x", h, got)
		}
	}
}

func TestFormAboveItsLimit(t *testing.T) {
	status := &load{Msg: api.Msg{Kind: api.MsgStatus, Height: 7, Round: 2}}
	if b, e := encodeLoad(status, msgUses, 3); e != api.OK || string(b) != "\x04\x07\x02" {
		t.Errorf("W11: % x, error %d", b, e)
	}
	if b, e := encodeLoad(status, msgUses, 2); e != api.ErrBig || b != nil {
		t.Errorf("W11: % x, error %d", b, e)
	}
	if b, e := encodeLoad(&load{Msg: api.Msg{Kind: 8}}, msgUses, 0); e != api.ErrKind || b != nil {
		t.Errorf("W11: % x, error %d", b, e)
	}
}
