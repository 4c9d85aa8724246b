package seal_test

import (
	"strconv"
	"sync"
	"sync/atomic"
	"testing"

	"assent/api"
	"assent/seal"
)

// together runs n calls of work at one time.
func together(n int, work func(k int)) {
	var begin, end sync.WaitGroup
	begin.Add(1)
	for k := range n {
		end.Go(func() {
			begin.Wait()
			work(k)
		})
	}
	begin.Done()
	end.Wait()
}

func TestEnterTogether(t *testing.T) {
	for range 50 {
		r := seal.New()
		const addrs = 20
		var signers [8][addrs + 1]*seal.Signer
		together(len(signers), func(k int) {
			for a := range signers[k] {
				s, e := r.Enter(api.Addr(a))
				if (s != nil) != (e == api.OK) || a == 0 && e != api.ErrArg || a > 0 && e != api.OK && e != api.ErrTwice {
					t.Errorf("S2: Enter(%d): %v, error %d", a, s, e)
				}
				signers[k][a] = s
				if r.Known(api.Addr(a)) != (a > 0) {
					t.Errorf("S7: Known(%d) behind an Enter is %v", a, a == 0)
				}
			}
		})
		for a := 1; a <= addrs; a++ {
			handedOut := 0
			for k := range signers {
				if signers[k][a] != nil {
					handedOut++
				}
			}
			if handedOut != 1 {
				t.Fatalf("P3.2: %d signers of %d", handedOut, a)
			}
		}
	}
}

// TestSignTogether: the signers are used by all, each message is signed by several.
func TestSignTogether(t *testing.T) {
	r := seal.New()
	var signers [4]*seal.Signer
	for k := range signers {
		signers[k] = enter(t, r, api.Addr(k+1))
	}
	const msgs = 300
	together(8, func(k int) {
		for n := range msgs {
			msg := strconv.Itoa((n + k*37) % msgs)
			s := signers[n%len(signers)]
			x, e := s.Sign([]byte(msg))
			if e != api.OK || x != byHand(s.Addr(), msg) {
				t.Errorf("S4: Sign: %x, error %d", x, e)
			}
			if !r.Check(s.Addr(), []byte(msg), x) {
				t.Error("S7: signed, and not there")
			}
		}
	})
	total := 0
	for _, s := range signers {
		seen := map[string]bool{}
		for _, msg := range r.Signed(s.Addr()) {
			if seen[string(msg)] {
				t.Errorf("P3.3: %d has signed %s twice", s.Addr(), msg)
			}
			seen[string(msg)] = true
			if !r.Check(s.Addr(), msg, byHand(s.Addr(), string(msg))) {
				t.Errorf("P3.1: %d has signed %s, and Check does not say so", s.Addr(), msg)
			}
		}
		total += len(seen)
	}
	wantCount(t, "P3.3: the sum over all that are entered", r, total)
}

// TestAskTogether: while one signs, others ask; what they are told only grows.
func TestAskTogether(t *testing.T) {
	r := seal.New()
	s := enter(t, r, 7)
	const msgs = 400
	together(6, func(k int) {
		if k == 0 {
			for n := range msgs {
				s.Sign([]byte(strconv.Itoa(n)))
			}
			return
		}
		told, counted := 0, 0
		checked := [msgs]bool{}
		for n := range msgs {
			if s.Addr() != 7 {
				t.Error("S3: another address")
			}
			list := r.Signed(7)
			if len(list) < told {
				t.Errorf("P3.3: %d messages, then %d", told, len(list))
			}
			for i, msg := range list {
				if string(msg) != strconv.Itoa(i) {
					t.Errorf("P3.3: Signed(7)[%d] is %s", i, msg)
					return
				}
			}
			now := r.Count()
			if now < counted || now < len(list) {
				t.Errorf("P3.3: Count is %d behind %d, with %d messages", now, counted, len(list))
			}
			told, counted = len(list), now
			msg := strconv.Itoa(n / 2)
			good := r.Check(7, []byte(msg), byHand(7, msg))
			if checked[n/2] && !good || n/2 < told && !good {
				t.Errorf("P3.4: the record of %s is gone", msg)
			}
			checked[n/2] = good
		}
	})
	wantCount(t, "S7", r, msgs)
}

// TestAskWhileOthersCome: one enters others and signs for them, while the rest ask as fast as they can; a map that is read and written at one time stops the program.
func TestAskWhileOthersCome(t *testing.T) {
	r := seal.New()
	sign(t, enter(t, r, 7), "ab")
	var over atomic.Bool
	together(6, func(k int) {
		if k == 0 {
			for a := api.Addr(1000); a < 6000; a++ {
				s, _ := r.Enter(a)
				s.Sign(nil)
			}
			over.Store(true)
			return
		}
		for !over.Load() {
			if list := r.Signed(7); len(list) != 1 || string(list[0]) != "ab" {
				t.Error("P3.3: Signed(7) has changed")
				return
			}
			if !r.Known(7) || r.Count() < 1 {
				t.Error("P3.4: what was there is gone")
				return
			}
		}
	})
	wantCount(t, "S7", r, 5001)
}
