package disk_test

import (
	"math"
	"strconv"
	"testing"

	"assent/api"
	"assent/disk"
)

func arm(t *testing.T, d *disk.Disk, at, kind int, done bool) {
	t.Helper()
	want(t, "D9: Arm", d.Arm(api.Trouble{At: at, Kind: kind, Done: done}), api.OK)
}

// half has x with the synced AB and the unsynced CD.
func half(t *testing.T) *disk.Disk {
	t.Helper()
	d := newDisk(t, 10)
	all(t, "half", d.Append("x", []byte("AB")), d.Sync("x"), d.Append("x", []byte("CD")))
	return d
}

func TestArm(t *testing.T) {
	d := newDisk(t, 10)
	for _, x := range []struct {
		t api.Trouble
		e api.Errno
	}{
		{api.Trouble{At: 5, Kind: api.TrFault}, api.OK},
		{api.Trouble{At: 5, Kind: api.TrPower}, api.OK},
		{api.Trouble{At: 5, Kind: api.TrPower, Done: true}, api.OK},
		{api.Trouble{At: 1 << 32, Kind: api.TrFault}, api.OK},
		{api.Trouble{At: 1 << 32, Kind: api.TrPower, Done: true}, api.OK},
		{api.Trouble{At: 1<<32 + 1, Kind: api.TrFault}, api.ErrArg},
		{api.Trouble{At: math.MaxInt, Kind: api.TrPower}, api.ErrArg},
		{api.Trouble{At: 0, Kind: api.TrFault}, api.ErrArg},
		{api.Trouble{At: -1, Kind: api.TrPower}, api.ErrArg},
		{api.Trouble{At: math.MinInt, Kind: api.TrFault}, api.ErrArg},
		{api.Trouble{At: 5, Kind: 0}, api.ErrArg},
		{api.Trouble{At: 5, Kind: 3}, api.ErrArg},
		{api.Trouble{At: 5, Kind: -1}, api.ErrArg},
		{api.Trouble{At: 5, Kind: math.MaxInt}, api.ErrArg},
		{api.Trouble{At: 5, Kind: api.TrFault, Done: true}, api.ErrArg},
		{api.Trouble{}, api.ErrArg},
	} {
		want(t, "D9: Arm of At "+strconv.Itoa(x.t.At)+", Kind "+strconv.Itoa(x.t.Kind), d.Arm(x.t), x.e)
	}
	wantCalls(t, "D9: Arm is no numbered call", d, 0)
	if !d.On() {
		t.Error("D9: Arm alone has taken the power")
	}
	for k := range 4 {
		all(t, "D9: call "+strconv.Itoa(k+1), d.Append("x", []byte("A")))
	}
	want(t, "D9: the fifth call, the fault was armed first", d.Append("x", []byte("A")), api.ErrFault)
	all(t, "D9: what was refused by Arm befalls nothing", d.Append("x", []byte("A")))
}

// TestFirstArmed: of several for one call the one that was armed first befalls it, also if they were armed at different times; the others go with that call.
func TestFirstArmed(t *testing.T) {
	for _, first := range []api.Trouble{{At: 3, Kind: api.TrFault}, {At: 3, Kind: api.TrPower}, {At: 3, Kind: api.TrPower, Done: true}} {
		for _, second := range []api.Trouble{{At: 2, Kind: api.TrFault}, {At: 2, Kind: api.TrPower}, {At: 2, Kind: api.TrPower, Done: true}} {
			d := newDisk(t, 10)
			want(t, "D9", d.Arm(first), api.OK)
			all(t, "D9", d.Append("x", []byte("A")))
			want(t, "D9", d.Arm(second), api.OK)
			want(t, "D9", d.Arm(second), api.OK)
			all(t, "D9", d.Replace("x", []byte("B")))
			e := d.Replace("x", []byte("C"))
			switch {
			case first.Kind == api.TrFault:
				want(t, "D9: a fault first", e, api.ErrFault)
				all(t, "D9: the others are gone", d.Append("x", []byte("D")), d.Append("x", []byte("E")), d.Append("x", []byte("F")))
				wantLeft(t, "D9: a fault first", d, nil, 0, "x=B")
			case first.Done:
				want(t, "D9: the power first, done", e, api.ErrOff)
				wantLeft(t, "D9: the power first, done", d, nil, 0, "x=C")
			default:
				want(t, "D9: the power first, not done", e, api.ErrOff)
				wantLeft(t, "D9: the power first, not done", d, nil, 0, "x=B")
			}
		}
	}
}

// TestJustThatCall: P6.7: a trouble befalls the numbered call that it was armed for, whatever is refused or asked between.
func TestJustThatCall(t *testing.T) {
	const calls = 12
	for before := range calls {
		for at := 1; before+at <= calls; at++ {
			d := newDisk(t, 1000)
			for n := 1; n <= calls; n++ {
				if n == before+1 {
					arm(t, d, at, api.TrFault, false)
				}
				e := api.OK
				if n == before+at {
					e = api.ErrFault
				}
				unnumbered(d)
				wantCalls(t, "P6.7", d, n-1)
				want(t, "P6.7: call "+strconv.Itoa(n), d.Append("x", []byte("A")), e)
			}
			wantSize(t, "P6.7", d, "x", calls-1, 0)
		}
	}
}

// unnumbered makes calls of which none is numbered.
func unnumbered(d *disk.Disk) {
	d.Append("", nil)
	d.Append("X", nil)
	d.Append("x", make([]byte, 1001))
	d.Sync("no")
	d.Replace("x", make([]byte, 1001))
	d.Cut("x", -1)
	d.Cut("no", 0)
	d.Remove("no")
	d.Read("x")
	d.Size("x")
	d.Names()
	d.On()
	d.Arm(api.Trouble{})
	d.Arm(api.Trouble{At: 1000, Kind: api.TrPower})
}

// numberedCalls are one of each kind, on half's disk, each with what it makes of x there (before a crash that keeps nothing unsynced).
func numberedCalls() map[string]struct {
	do         func(d *disk.Disk) api.Errno
	done, left string
} {
	return map[string]struct {
		do         func(d *disk.Disk) api.Errno
		done, left string
	}{
		"Append":  {func(d *disk.Disk) api.Errno { return d.Append("x", []byte("E")) }, "x=ABCDE", "x=AB"},
		"Sync":    {func(d *disk.Disk) api.Errno { return d.Sync("x") }, "x=ABCD", "x=ABCD"},
		"Replace": {func(d *disk.Disk) api.Errno { return d.Replace("x", []byte("FGHIJ")) }, "x=FGHIJ", "x=FGHIJ"},
		"Cut":     {func(d *disk.Disk) api.Errno { return d.Cut("x", 1) }, "x=A", "x=A"},
		"Remove":  {func(d *disk.Disk) api.Errno { return d.Remove("x") }, "", ""},
		"new":     {func(d *disk.Disk) api.Errno { return d.Append("a", nil) }, "a= x=ABCD", "a= x=AB"},
		"more":    {func(d *disk.Disk) api.Errno { return d.Replace("y", []byte("K")) }, "x=ABCD y=K", "x=AB y=K"},
	}
}

func TestEachCallDone(t *testing.T) {
	for what, x := range numberedCalls() {
		for _, keepAll := range []bool{false, true} {
			d, keep, left := half(t), []int{0, 0}, x.left
			if keepAll {
				keep, left = []int{9, 9}, x.done
			}
			all(t, what, x.do(d))
			wantCalls(t, what, d, 4)
			wantLeft(t, what, d, keep, 0, left)
		}
	}
}

// TestPower: the power goes with each kind of call, done or not done at all, and then there is nothing but Crash.
func TestPower(t *testing.T) {
	for what, x := range numberedCalls() {
		for _, done := range []bool{false, true} {
			for _, keepAll := range []bool{false, true} {
				d := half(t)
				arm(t, d, 1, api.TrPower, done)
				want(t, "P6.3: "+what, x.do(d), api.ErrOff)
				wantCalls(t, "D8: off, "+what, d, 4)
				wantOff(t, what, d)
				keep, left := []int{0, 0}, "x=AB"
				switch {
				case keepAll && done:
					keep, left = []int{9, 9}, x.done
				case keepAll:
					keep, left = []int{9, 9}, "x=ABCD"
				case done:
					left = x.left
				}
				wantLeft(t, "P6.3: "+what, d, keep, 0, left)
				wantOff(t, "behind Crash, "+what, d)
				wantCrashed(t, d)
			}
		}
	}
}

// wantOff: P6.6: no call but Crash answers OK, and none is numbered.
func wantOff(t *testing.T, what string, d *disk.Disk) {
	t.Helper()
	if d.On() {
		t.Errorf("%s: the disk is on", what)
	}
	wantNames(t, "P6.6: "+what, d)
	for _, name := range []string{"x", "no", "", "X"} {
		wantRefused(t, d, name, api.ErrOff)
	}
	for _, tr := range []api.Trouble{{}, {At: 1, Kind: api.TrFault}, {At: 1, Kind: api.TrPower, Done: true}} {
		want(t, "P6.6: Arm, "+what, d.Arm(tr), api.ErrOff)
	}
}

// wantCrashed: a second Crash tells nothing.
func wantCrashed(t *testing.T, d *disk.Disk) {
	t.Helper()
	for range 2 {
		if im, e := d.Crash([]int{1}, 1); im.Files != nil || e != api.ErrOff {
			t.Errorf("D10: a second Crash: %q, error %d", told(im), e)
		}
	}
}

// TestFault: P6.4, for each kind of call, and the same call is done when it is made again.
func TestFault(t *testing.T) {
	for what, x := range numberedCalls() {
		for _, keep := range [][]int{nil, {9, 9}} {
			d, left := half(t), x.left
			arm(t, d, 1, api.TrFault, false)
			want(t, "P6.4: "+what, x.do(d), api.ErrFault)
			wantCalls(t, "P6.4: "+what, d, 4)
			wantNames(t, "P6.4: "+what, d, "x")
			wantRead(t, "P6.4: "+what, d, "x", "ABCD")
			wantSize(t, "P6.4: "+what, d, "x", 4, 2)
			if !d.On() {
				t.Errorf("P6.4: %s: a fault has taken the power", what)
			}
			want(t, "P6.4: what is used is the same", d.Append("x", make([]byte, 7)), api.ErrFull)
			if keep != nil {
				left = x.done
			}
			all(t, "P6.4: again, "+what, x.do(d))
			wantLeft(t, "P6.4: "+what, d, keep, 0, left)

			d, left = half(t), "x=AB"
			arm(t, d, 1, api.TrFault, false)
			want(t, "P6.4: "+what, x.do(d), api.ErrFault)
			if keep != nil {
				left = "x=ABCD"
			}
			wantLeft(t, "P6.4: no trace, "+what, d, keep, 0, left)
		}
	}
}

// TestRefusedAhead: a call that another error refuses is befallen by nothing, though a trouble waits.
func TestRefusedAhead(t *testing.T) {
	for _, kind := range []int{api.TrFault, api.TrPower} {
		d := newDisk(t, 10)
		arm(t, d, 1, kind, false)
		want(t, "ErrName ahead", d.Append("A", nil), api.ErrName)
		want(t, "ErrNoFile ahead", d.Sync("x"), api.ErrNoFile)
		want(t, "ErrNoFile ahead", d.Cut("x", -1), api.ErrNoFile)
		want(t, "ErrNoFile ahead", d.Remove("x"), api.ErrNoFile)
		want(t, "ErrFull ahead", d.Append("x", make([]byte, 11)), api.ErrFull)
		want(t, "ErrFull ahead", d.Replace("x", make([]byte, 11)), api.ErrFull)
		d = half(t)
		arm(t, d, 1, kind, false)
		want(t, "ErrArg ahead", d.Cut("x", 5), api.ErrArg)
		wantCalls(t, "refused", d, 3)
		if !d.On() {
			t.Error("P6.7: a call that is not numbered has taken the power")
		}
	}
}

func TestCrash(t *testing.T) {
	for _, x := range []struct {
		keep []int
		junk byte
		left string
	}{
		{nil, 0, "x=AB"}, {[]int{}, 255, "x=AB"}, {[]int{0}, 255, "x=AB"}, {[]int{1}, 0, "x=ABC"}, {[]int{2}, 0, "x=ABCD"},
		{[]int{3}, 0, "x=ABCD"}, {[]int{-5}, 7, "x=AB"}, {[]int{9}, 1, "x=ABCE"}, {[]int{1, 7}, 32, "x=ABc"},
		{[]int{math.MaxInt}, 0, "x=ABCD"}, {[]int{math.MinInt}, 1, "x=AB"}, {[]int{2}, 255, "x=ABC\xbb"}, {[]int{0, 2, 2}, 1, "x=AB"},
	} {
		d := half(t)
		wantLeft(t, "D10", d, x.keep, x.junk, x.left)
		wantOff(t, "behind Crash", d)
		wantCalls(t, "D8: off", d, 3)
		wantCrashed(t, d)
	}
}

// TestCrashByPlace: keep goes by the files' rising names, not by when they were made.
func TestCrashByPlace(t *testing.T) {
	for _, x := range []struct {
		keep []int
		junk byte
		left string
	}{
		{nil, 9, "a= b=ab c= d=f"},
		{[]int{1, 1, 1, 1}, 0, "a=c b=abd c= d=f"},
		{[]int{0, 9, 9, 9}, 1, "a= b=abdd c= d=f"},
		{[]int{2, 0, 9}, 32, "a=cC b=ab c= d=f"},
		{[]int{-1, -1, -1, 5, 7}, 1, "a= b=ab c= d=f"},
	} {
		d := newDisk(t, 100)
		all(t, "D10", d.Replace("d", []byte("f")), d.Append("b", []byte("ab")), d.Sync("b"), d.Append("c", nil), d.Append("a", []byte("cc")), d.Append("b", []byte("de")))
		wantLeft(t, "D10: by place", d, x.keep, x.junk, x.left)
	}
}

func TestExamples(t *testing.T) {
	d := half(t) // 1, 2: the rest is in TestCrash
	wantRead(t, "example 1", d, "x", "ABCD")
	wantLeft(t, "example 1", d, []int{1}, 0, "x=ABC")

	d = newDisk(t, 10)
	all(t, "example 3", d.Append("y", nil))
	wantCalls(t, "example 3", d, 1)
	wantNames(t, "example 3", d, "y")
	wantSize(t, "example 3", d, "y", 0, 0)
	wantLeft(t, "example 3", d, nil, 0, "y=")

	d = newDisk(t, 10)
	all(t, "example 5", d.Append("x", []byte("ABCDEF")), d.Replace("x", make([]byte, 10)))
	want(t, "example 5", d.Replace("x", make([]byte, 11)), api.ErrFull)
	want(t, "example 5", d.Replace("y", []byte("A")), api.ErrFull)
	want(t, "example 5", d.Cut("x", 11), api.ErrArg)
	all(t, "example 5", d.Cut("x", 3))
	wantSize(t, "example 5", d, "x", 3, 3)

	d = newDisk(t, 10)
	arm(t, d, 2, api.TrFault, false)
	all(t, "example 6", d.Append("x", []byte("A")))
	want(t, "example 6", d.Append("x", []byte("B")), api.ErrFault)
	wantRead(t, "example 6", d, "x", "A")
	wantCalls(t, "example 6", d, 2)
	all(t, "example 6", d.Append("x", []byte("C")))
	wantRead(t, "example 6", d, "x", "AC")

	for done, left := range map[bool]string{true: "x=A", false: ""} {
		d = newDisk(t, 10)
		arm(t, d, 1, api.TrPower, done)
		want(t, "example 7", d.Append("x", []byte("A")), api.ErrOff)
		wantLeft(t, "example 7", d, []int{1}, 0, left)
	}

	d = newDisk(t, 10)
	arm(t, d, 1, api.TrFault, false)
	arm(t, d, 1, api.TrPower, true)
	want(t, "example 9", d.Append("x", []byte("A")), api.ErrFault)
	all(t, "example 9", d.Append("x", []byte("A")))
}
