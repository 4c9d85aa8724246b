package disk_test

import (
	"math"
	"slices"
	"strconv"
	"strings"
	"testing"

	"assent/api"
	"assent/disk"
)

func newDisk(t *testing.T, limit int) *disk.Disk {
	t.Helper()
	d, e := disk.New(limit)
	if d == nil || e != api.OK {
		t.Fatalf("D1: New(%d): %v, error %d", limit, d, e)
	}
	return d
}

func mount(t *testing.T, im api.Image, limit int) *disk.Disk {
	t.Helper()
	d, e := disk.Mount(im, limit)
	if d == nil || e != api.OK {
		t.Fatalf("D2: Mount with limit %d: %v, error %d", limit, d, e)
	}
	return d
}

// image is of files that are written name=bytes.
func image(files ...string) (im api.Image) {
	for _, f := range files {
		name, bytes, _ := strings.Cut(f, "=")
		im.Files = append(im.Files, api.File{Name: name, Bytes: []byte(bytes)})
	}
	return im
}

func told(im api.Image) string {
	var l []string
	for _, f := range im.Files {
		l = append(l, f.Name+"="+string(f.Bytes))
	}
	return strings.Join(l, " ")
}

func want(t *testing.T, what string, got, e api.Errno) {
	t.Helper()
	if got != e {
		t.Errorf("%s: error %d, want %d", what, got, e)
	}
}

func wantRead(t *testing.T, what string, d *disk.Disk, name, bytes string) {
	t.Helper()
	if b, e := d.Read(name); string(b) != bytes || e != api.OK {
		t.Errorf("%s: Read(%s) is %q, error %d, want %q", what, name, b, e, bytes)
	}
}

func wantSize(t *testing.T, what string, d *disk.Disk, name string, all, synced int) {
	t.Helper()
	if n, s, e := d.Size(name); n != all || s != synced || e != api.OK {
		t.Errorf("%s: Size(%s) is %d, %d, error %d, want %d, %d", what, name, n, s, e, all, synced)
	}
}

func wantNoFile(t *testing.T, what string, d *disk.Disk, name string) {
	t.Helper()
	if b, e := d.Read(name); len(b) != 0 || e != api.ErrNoFile {
		t.Errorf("%s: Read(%s) is %q, error %d, want ErrNoFile", what, name, b, e)
	}
}

func wantNames(t *testing.T, what string, d *disk.Disk, names ...string) {
	t.Helper()
	if got := d.Names(); !slices.Equal(got, names) {
		t.Errorf("%s: Names are %q, want %q", what, got, names)
	}
}

func wantCalls(t *testing.T, what string, d *disk.Disk, calls int) {
	t.Helper()
	if got := d.Calls(); got != calls {
		t.Errorf("%s: Calls is %d, want %d", what, got, calls)
	}
}

func wantLeft(t *testing.T, what string, d *disk.Disk, keep []int, junk byte, left string) {
	t.Helper()
	im, e := d.Crash(keep, junk)
	if got := told(im); got != left || e != api.OK {
		t.Errorf("%s: Crash(%v, %d) leaves %q, error %d, want %q", what, keep, junk, got, e, left)
	}
}

// all is the OK of each of the calls.
func all(t *testing.T, what string, es ...api.Errno) {
	t.Helper()
	for k, e := range es {
		want(t, what+", call "+strconv.Itoa(k+1), e, api.OK)
	}
}

func TestNew(t *testing.T) {
	for limit, e := range map[int]api.Errno{
		math.MinInt: api.ErrArg, -1: api.ErrArg, 0: api.ErrArg, 1: api.OK, 2: api.OK,
		1 << 30: api.OK, 1<<30 + 1: api.ErrArg, math.MaxInt: api.ErrArg,
	} {
		d, got := disk.New(limit)
		if got != e || (d != nil) != (e == api.OK) {
			t.Errorf("D1: New(%d): %v, error %d, want %d", limit, d, got, e)
		}
		if e != api.OK {
			continue
		}
		wantNames(t, "D1", d)
		wantCalls(t, "D1", d, 0)
		if !d.On() {
			t.Errorf("D1: New(%d) is off", limit)
		}
		wantLeft(t, "D1", d, []int{1}, 1, "")
	}
}

func TestMount(t *testing.T) {
	long := strings.Repeat("z", api.MaxName)
	for _, x := range []struct {
		im    api.Image
		limit int
		e     api.Errno
	}{
		{api.Image{}, 1, api.OK},
		{image("a=abc"), 3, api.OK},
		{image("a=abc", "b=", "c=d"), 4, api.OK},
		{image("-=", ".=", "0=", "9=", "a=", "a-=", "a.=", "a0=", "aa=", "b=", long+"="), 1, api.OK},
		{image("b=", "a="), 10, api.ErrName},
		{image("a=", "a="), 10, api.ErrName},
		{image("aa=", "a="), 10, api.ErrName},
		{image("a=", "c=", "b="), 10, api.ErrName},
		{image("=x"), 10, api.ErrName},
		{image("a=", "B="), 10, api.ErrName},
		{image("a=", "b_="), 10, api.ErrName},
		{image(long + "z="), 10, api.ErrName},
		{image("a=abc"), 2, api.ErrFull},
		{image("a=abc", "b=d"), 3, api.ErrFull},
		{image("a=abc"), 0, api.ErrArg},
		{image("a=abc"), -1, api.ErrArg},
		{image("a=abc"), api.MaxDisk + 1, api.ErrArg},
		{image("a=abc"), api.MaxDisk, api.OK},
		{image("b=abc", "a=abc"), 0, api.ErrName}, // names come ahead of the limit
		{image("b=abc", "a=abc"), 1, api.ErrName},
	} {
		d, e := disk.Mount(x.im, x.limit)
		if e != x.e || (d != nil) != (x.e == api.OK) {
			t.Errorf("D2: Mount(%s, %d): %v, error %d, want %d", told(x.im), x.limit, d, e, x.e)
		}
		if e == api.OK {
			wantMounted(t, d, x.im)
		}
	}
}

// wantMounted: the disk holds the image, all of it synced, and is otherwise as New's.
func wantMounted(t *testing.T, d *disk.Disk, im api.Image) {
	t.Helper()
	var names []string
	for _, f := range im.Files {
		names = append(names, f.Name)
		wantRead(t, "D2", d, f.Name, string(f.Bytes))
		wantSize(t, "D2", d, f.Name, len(f.Bytes), len(f.Bytes))
	}
	wantNames(t, "D2", d, names...)
	wantCalls(t, "D2", d, 0)
	if !d.On() {
		t.Error("D2: a mounted disk is off")
	}
}

// TestMountedLimit: what is mounted is used, and the limit is that of Mount.
func TestMountedLimit(t *testing.T) {
	d := mount(t, image("a=abc", "b=de"), 6)
	want(t, "D2: two bytes more", d.Append("a", []byte("xy")), api.ErrFull)
	all(t, "D2: one byte more", d.Append("a", []byte("x")))
	want(t, "D2: and one more", d.Append("b", []byte("y")), api.ErrFull)
	wantLeft(t, "D2", d, []int{0}, 0, "a=abc b=de")
}

func manyFiles(n int) (im api.Image) {
	for k := range n {
		name := strconv.Itoa(1000000 + k)
		im.Files = append(im.Files, api.File{Name: name})
	}
	return im
}

func TestMaxFiles(t *testing.T) {
	if d, e := disk.Mount(manyFiles(api.MaxFiles+1), 10); d != nil || e != api.ErrFull {
		t.Errorf("D2: Mount of MaxFiles + 1 files: %v, error %d", d, e)
	}
	if d, e := disk.Mount(manyFiles(api.MaxFiles+1), 0); d != nil || e != api.ErrArg {
		t.Errorf("D2: Mount of MaxFiles + 1 files with limit 0: %v, error %d", d, e)
	}
	wrong := manyFiles(api.MaxFiles + 1)
	wrong.Files[api.MaxFiles].Name = "0"
	if d, e := disk.Mount(wrong, 10); d != nil || e != api.ErrName {
		t.Errorf("D2: Mount of MaxFiles + 1 files, the last one out of order: %v, error %d", d, e)
	}
	d := mount(t, manyFiles(api.MaxFiles), 10)
	old := "1000007"
	want(t, "D3: one file more", d.Append("x", nil), api.ErrFull)
	want(t, "D5: one file more", d.Replace("x", nil), api.ErrFull)
	all(t, "D3, D5: a file that is there", d.Append(old, []byte("A")), d.Replace(old, []byte("B")))
	want(t, "D4: no file", d.Sync("x"), api.ErrNoFile)
	wantCalls(t, "D3", d, 2)
	all(t, "D7: room again", d.Remove(old), d.Append("x", []byte("A")))
	want(t, "D5: full again", d.Replace("y", nil), api.ErrFull)
	all(t, "D7: room again", d.Remove("x"), d.Replace("y", []byte("A")))
	want(t, "D3: full again", d.Append("z", nil), api.ErrFull)
	if n := len(d.Names()); n != api.MaxFiles {
		t.Errorf("D8: %d names", n)
	}
}

func TestNames(t *testing.T) {
	d := newDisk(t, 1000)
	for k := range 256 {
		c := string([]byte{byte(k)})
		e := api.ErrName
		if strings.Contains("abcdefghijklmnopqrstuvwxyz0123456789-.", c) {
			e = api.OK
		}
		for _, name := range []string{c, "a" + c, c + "a", strings.Repeat("a", 31) + c} {
			want(t, "a name: Append of "+strconv.Quote(name), d.Append(name, nil), e)
			if e != api.OK {
				wantRefused(t, d, name, e)
			}
		}
	}
	for _, name := range []string{"", strings.Repeat("a", 33), strings.Repeat("a", 1000), "a b", "ä", "a\x00", "/"} {
		wantRefused(t, d, name, api.ErrName)
	}
}

// wantRefused: every call by name answers e, with nothing beside it.
func wantRefused(t *testing.T, d *disk.Disk, name string, e api.Errno) {
	t.Helper()
	calls := d.Calls()
	what := "of " + strconv.Quote(name)
	want(t, "Append "+what, d.Append(name, []byte("A")), e)
	want(t, "Append of 1001 bytes "+what, d.Append(name, make([]byte, 1001)), e)
	want(t, "Sync "+what, d.Sync(name), e)
	want(t, "Replace "+what, d.Replace(name, []byte("A")), e)
	want(t, "Replace by 1001 bytes "+what, d.Replace(name, make([]byte, 1001)), e)
	want(t, "Cut "+what, d.Cut(name, 0), e)
	want(t, "Cut to -1 "+what, d.Cut(name, -1), e)
	want(t, "Remove "+what, d.Remove(name), e)
	if b, got := d.Read(name); b != nil || got != e {
		t.Errorf("Read %s: %q, error %d, want %d", what, b, got, e)
	}
	if n, s, got := d.Size(name); n != 0 || s != 0 || got != e {
		t.Errorf("Size %s: %d, %d, error %d, want %d", what, n, s, got, e)
	}
	wantCalls(t, "a call that is refused is numbered", d, calls)
}

func TestNamesRise(t *testing.T) {
	rising := []string{"-", "-.", ".", "0", "00", "0a", "9", "a", "a-", "a.", "a.b", "a0", "a00", "aa", "ab", "b", "ba", strings.Repeat("z", 32)}
	d := newDisk(t, 10)
	for k := range rising {
		all(t, "D3", d.Append(rising[k*7%len(rising)], nil))
	}
	wantNames(t, "D8", d, rising...)
	all(t, "D7", d.Remove("a"), d.Remove("b"), d.Remove("-"))
	rising = slices.DeleteFunc(rising, func(n string) bool { return n == "a" || n == "b" || n == "-" })
	wantNames(t, "D8: behind Remove", d, rising...)
	wantLeft(t, "D10", d, nil, 0, strings.Join(rising, "= ")+"=")
}

func TestAppendAndSync(t *testing.T) {
	d := newDisk(t, 10)
	all(t, "D3", d.Append("x", []byte("AB")))
	wantSize(t, "D3", d, "x", 2, 0)
	all(t, "D4", d.Sync("x"))
	wantSize(t, "D4", d, "x", 2, 2)
	all(t, "D3", d.Append("x", []byte("CD")))
	wantSize(t, "D3", d, "x", 4, 2)
	wantRead(t, "D8", d, "x", "ABCD")
	wantCalls(t, "D8", d, 3)
	all(t, "D3: nothing behind", d.Append("x", nil), d.Append("x", []byte{}))
	wantSize(t, "D3", d, "x", 4, 2)
	wantCalls(t, "D3: it is numbered all the same", d, 5)
	all(t, "D4: of one file alone", d.Append("y", []byte("E")), d.Sync("x"))
	wantSize(t, "D4", d, "x", 4, 4)
	wantSize(t, "D4", d, "y", 1, 0)
	all(t, "D4: again", d.Sync("x"))
	wantCalls(t, "D4", d, 8)
	all(t, "D3: up to the limit", d.Append("z", []byte("FGHIJ")), d.Append("x", nil), d.Append("w", nil))
	want(t, "D3: one above", d.Append("w", []byte("K")), api.ErrFull)
	want(t, "D3: one above", d.Append("v", []byte("K")), api.ErrFull)
	wantNames(t, "D3", d, "w", "x", "y", "z")
	wantCalls(t, "D3", d, 11)
}

func TestReplace(t *testing.T) {
	d := newDisk(t, 10)
	all(t, "D5: made", d.Replace("x", []byte("AB")))
	wantSize(t, "D5", d, "x", 2, 2)
	all(t, "D5", d.Append("x", []byte("CD")), d.Replace("x", []byte("E")))
	wantRead(t, "D5", d, "x", "E")
	wantSize(t, "D5", d, "x", 1, 1)
	all(t, "D5", d.Append("x", []byte("F")))
	wantSize(t, "D5", d, "x", 2, 1)
	all(t, "D5: by nothing", d.Replace("x", nil), d.Replace("y", nil))
	wantSize(t, "D5", d, "x", 0, 0)
	wantNames(t, "D5", d, "x", "y")
	wantCalls(t, "D5", d, 6)
	all(t, "D5: what it has is given back", d.Append("x", []byte("ABCD")), d.Append("y", []byte("ABCDE")), d.Replace("x", []byte("ABCDE")))
	want(t, "D5: used less what the file has", d.Replace("x", []byte("ABCDEF")), api.ErrFull)
	want(t, "D5: another file", d.Replace("z", []byte("A")), api.ErrFull)
	all(t, "D5: another file without bytes", d.Replace("z", nil))
	wantRead(t, "D5: refused, so it stays", d, "x", "ABCDE")
	all(t, "D5: by less", d.Replace("x", []byte("A")), d.Append("z", []byte("ABCD")))
	want(t, "D5: full", d.Append("z", []byte("A")), api.ErrFull)
}

func TestCut(t *testing.T) {
	d := newDisk(t, 10)
	all(t, "D6", d.Append("x", []byte("ABC")), d.Sync("x"), d.Append("x", []byte("DEF")))
	for _, n := range []int{-1, 7, math.MinInt, math.MaxInt} {
		want(t, "D6: Cut to "+strconv.Itoa(n), d.Cut("x", n), api.ErrArg)
	}
	wantSize(t, "D6: refused, so it stays", d, "x", 6, 3)
	wantCalls(t, "D6", d, 3)
	all(t, "D6: within the unsynced", d.Cut("x", 5))
	wantSize(t, "D6", d, "x", 5, 5)
	wantRead(t, "D6", d, "x", "ABCDE")
	all(t, "D6", d.Append("x", []byte("GH")), d.Cut("x", 7))
	wantSize(t, "D6: to all of it is a sync", d, "x", 7, 7)
	all(t, "D6: within the synced", d.Append("x", []byte("IJ")), d.Cut("x", 2))
	wantSize(t, "D6", d, "x", 2, 2)
	all(t, "D6: what is written behind it", d.Append("x", []byte("K")))
	wantRead(t, "D6", d, "x", "ABK")
	wantSize(t, "D6", d, "x", 3, 2)
	all(t, "D6: room again", d.Append("y", []byte("ABCDEFG")))
	want(t, "D6: full", d.Append("x", []byte("A")), api.ErrFull)
	all(t, "D6: to nothing", d.Cut("x", 0), d.Cut("x", 0))
	wantSize(t, "D6", d, "x", 0, 0)
	want(t, "D6: of no bytes", d.Cut("x", 1), api.ErrArg)
	wantNames(t, "D6", d, "x", "y")
}

func TestRemove(t *testing.T) {
	d := newDisk(t, 10)
	all(t, "D7", d.Replace("x", []byte("ABCDE")), d.Append("y", []byte("ABCDE")), d.Remove("x"))
	wantNoFile(t, "D7", d, "x")
	wantNames(t, "D7", d, "y")
	want(t, "D7: again", d.Remove("x"), api.ErrNoFile)
	want(t, "D4", d.Sync("x"), api.ErrNoFile)
	want(t, "D6", d.Cut("x", 0), api.ErrNoFile)
	if n, s, e := d.Size("x"); n != 0 || s != 0 || e != api.ErrNoFile {
		t.Errorf("D8: Size: %d, %d, error %d", n, s, e)
	}
	wantCalls(t, "D7", d, 3)
	all(t, "D7: made anew", d.Append("x", []byte("F")))
	wantSize(t, "D7: nothing of the old one is there", d, "x", 1, 0)
	wantRead(t, "D7", d, "x", "F")
	all(t, "D7: room again", d.Append("x", []byte("GHIJ")))
	want(t, "D7: full", d.Append("x", []byte("K")), api.ErrFull)
	wantLeft(t, "D10", d, nil, 0, "x= y=")
}
