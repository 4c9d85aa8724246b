package disk_test

import (
	"bytes"
	"math"
	"math/rand"
	"reflect"
	"slices"
	"testing"

	"assent/api"
	"assent/disk"
)

// spoil writes over bytes and over the room behind them.
func spoil(b []byte) {
	b = b[:cap(b)]
	for k := range b {
		b[k] = '!'
	}
}

// roomy is the bytes with room behind them, in which something stands.
func roomy(s string) []byte { return append([]byte(s), "room"...)[:len(s)] }

func wantUntouched(t *testing.T, what string, b []byte, s string) {
	t.Helper()
	if got := string(b[:len(s)+4]); got != s+"room" {
		t.Errorf("G3: %s has changed what it was handed: %q", what, got)
	}
}

// TestHandedIn: what is handed in is neither changed nor kept.
func TestHandedIn(t *testing.T) {
	d := newDisk(t, 100)
	for _, x := range []struct {
		what string
		do   func(b []byte) api.Errno
	}{
		{"Append to none", func(b []byte) api.Errno { return d.Append("x", b) }},
		{"Append", func(b []byte) api.Errno { return d.Append("x", b) }},
		{"Append, again", func(b []byte) api.Errno { return d.Append("x", b) }},
		{"Replace", func(b []byte) api.Errno { return d.Replace("y", b) }},
		{"Replace, then Append", func(b []byte) api.Errno { return d.Replace("z", b) }},
		{"Append to what was replaced", func(b []byte) api.Errno { return d.Append("z", b) }},
	} {
		b := roomy("abc")
		all(t, x.what, x.do(b))
		wantUntouched(t, x.what, b, "abc")
		spoil(b)
	}
	wantRead(t, "G3", d, "x", "abcabcabc")
	wantRead(t, "G3", d, "y", "abc")
	wantRead(t, "G3", d, "z", "abcabc")
	keep := append([]int{1, 1, 1}, 7)[:2]
	im, _ := d.Crash(keep, 0)
	if !slices.Equal(keep[:3], []int{1, 1, 1}) {
		t.Errorf("G3: Crash has changed its keep: %v", keep[:3])
	}
	if told(im) != "x=a y=abc z=abc" {
		t.Errorf("G3: %q", told(im))
	}
}

// TestMountedImage: the image that is mounted is neither changed nor kept.
func TestMountedImage(t *testing.T) {
	files := []api.File{{Name: "a", Bytes: roomy("abc")}, {Name: "b", Bytes: roomy("de")}, {Name: "c"}, {Name: "room", Bytes: []byte("x")}}
	im := api.Image{Files: files[:3]}
	d := mount(t, im, 100)
	all(t, "G3", d.Append("a", []byte("XYZ")), d.Replace("b", []byte("UVW")), d.Cut("a", 4), d.Append("a", []byte("T")))
	wantUntouched(t, "a mounted disk", files[0].Bytes, "abc")
	wantUntouched(t, "a mounted disk", files[1].Bytes, "de")
	if files[3].Name != "room" || len(im.Files) != 3 {
		t.Errorf("G3: the image has changed: %v", files)
	}
	d, other := mount(t, im, 100), mount(t, im, 100)
	all(t, "G4: of one of two disks", other.Append("a", []byte("?")), other.Remove("b"))
	spoil(files[0].Bytes)
	files[1] = api.File{Name: "z"}
	wantRead(t, "G3", d, "a", "abc")
	wantNames(t, "G3", d, "a", "b", "c")
	wantLeft(t, "G3", d, nil, 0, "a=abc b=de c=")
	wantLeft(t, "G3", other, []int{1}, 0, "a=abc? c=")
}

// TestAnswersAreNew: an answer shares nothing with the disk or with another answer.
func TestAnswersAreNew(t *testing.T) {
	d := newDisk(t, 100)
	all(t, "G3", d.Append("a", []byte("abc")), d.Append("a", []byte("d")), d.Replace("b", []byte("ef")))
	one, _ := d.Read("a")
	two, _ := d.Read("a")
	spoil(one)
	if !bytes.Equal(two, []byte("abcd")) {
		t.Errorf("G3: two answers of Read are one: %q", two)
	}
	wantRead(t, "G3", d, "a", "abcd")
	kept, _ := d.Read("a")
	all(t, "G3: what was told stays", d.Append("a", []byte("x")), d.Cut("a", 1), d.Append("a", []byte("yyyyy")))
	if !bytes.Equal(kept, []byte("abcd")) {
		t.Errorf("G3: an answer has changed: %q", kept)
	}
	names := d.Names()
	names[0] = "zz"
	wantNames(t, "G3", d, "a", "b")
	im, _ := d.Crash([]int{9, 9}, 0)
	spoil(im.Files[0].Bytes)
	if string(im.Files[1].Bytes) != "ef" {
		t.Errorf("G3: two files of an image share their bytes: %q", told(im))
	}
}

// TestNotMade: G1: a nil disk, one that neither New nor Mount made, and a copy of one.
func TestNotMade(t *testing.T) {
	was := half(t)
	copied := reflect.New(reflect.TypeOf(*was)).Elem()
	copied.Set(reflect.ValueOf(was).Elem())
	for what, d := range map[string]*disk.Disk{"nil": nil, "zero": {}, "new": new(disk.Disk), "a copy": copied.Addr().Interface().(*disk.Disk)} {
		for _, name := range []string{"x", "no", "", "X"} {
			wantRefused(t, d, name, api.ErrNil)
		}
		wantNames(t, what, d)
		wantCalls(t, what, d, 0)
		if d.On() {
			t.Errorf("G1: a disk that is %s is on", what)
		}
		for _, tr := range []api.Trouble{{}, {At: 1, Kind: api.TrFault}, {At: 1, Kind: api.TrPower, Done: true}} {
			want(t, "G1: Arm, "+what, d.Arm(tr), api.ErrNil)
		}
		for range 2 {
			if im, e := d.Crash([]int{1}, 1); im.Files != nil || e != api.ErrNil {
				t.Errorf("G1: Crash of a disk that is %s: %q, error %d", what, told(im), e)
			}
		}
	}
	wantLeft(t, "G1: a copy changes nothing", was, []int{9}, 0, "x=ABCD")
}

// TestNothingPanics: G1: least and greatest numbers, empty and nil lists, in any order of the calls.
func TestNothingPanics(t *testing.T) {
	r := rand.New(rand.NewSource(7))
	numbers := []int{math.MinInt, math.MinInt + 1, -1, 0, 1, 2, 3, 1 << 30, 1 << 32, math.MaxInt - 1, math.MaxInt}
	number := func() int { return numbers[r.Intn(len(numbers))] }
	names := []string{"", "a", "b", "c", "\xff", "A", "-", "."}
	name := func() string { return names[r.Intn(len(names))] }
	for range 500 {
		disk.New(number())
		d, e := disk.Mount(image(name()+"=x", name()+"="), number())
		if e != api.OK {
			d = newDisk(t, 10)
		}
		for range 30 {
			switch r.Intn(8) {
			case 0:
				d.Append(name(), nil)
			case 1:
				d.Replace(name(), []byte{1, 2})
			case 2:
				d.Cut(name(), number())
			case 3:
				d.Arm(api.Trouble{At: number(), Kind: number(), Done: r.Intn(2) == 0})
			case 4:
				d.Remove(name())
			case 5:
				d.Append(name(), []byte{3})
			default:
				d.Sync(name())
			}
			d.Names()
		}
		d.Crash([]int{number(), number(), number()}, byte(r.Intn(256)))
		d.Crash(nil, 0)
		wantOff(t, "G1", d)
	}
}

// TestAgainTheSame: G4: the same calls are answered the same, and disks of different News have nothing in common.
func TestAgainTheSame(t *testing.T) {
	play := func(beside *disk.Disk) (answers []api.Errno, left string) {
		r, d := rand.New(rand.NewSource(4)), newDisk(t, 50)
		for range 60 {
			if r.Intn(9) == 0 {
				answers = append(answers, d.Arm(api.Trouble{At: 1 + r.Intn(4), Kind: api.TrFault}))
			}
			a := someAct(r)
			answers = append(answers, a.on(d))
			beside.Append("a", []byte("x"))
			beside.Remove("a")
			beside.Arm(api.Trouble{At: 2, Kind: api.TrFault})
		}
		im, e := d.Crash([]int{1, 2, 3}, 3)
		return append(answers, e), told(im)
	}
	answers, left := play(nil)
	for range 20 {
		if a, l := play(newDisk(t, 5)); !slices.Equal(a, answers) || l != left {
			t.Fatalf("G4: the same calls: %v and %q, then %v and %q", answers, left, a, l)
		}
	}
}
