package disk

import "assent/api"

// farthest is how many calls ahead a trouble may be armed.
const farthest = 1 << 32

// Arm has a trouble befall a call to come.
func (d *Disk) Arm(t api.Trouble) api.Errno {
	switch {
	case !d.made():
		return api.ErrNil
	case !d.on:
		return api.ErrOff
	case !isTrouble(t):
		return api.ErrArg
	}
	number := d.calls + t.At
	// Only the first that was armed for a call befalls it; the others would go with that call unseen.
	if _, armed := d.troubles[number]; !armed {
		d.troubles[number] = t
	}
	return api.OK
}

// Crash ends it: what it leaves.
func (d *Disk) Crash(keep []int, junk byte) (api.Image, api.Errno) {
	if !d.made() {
		return api.Image{}, api.ErrNil
	}
	if d.crashed {
		return api.Image{}, api.ErrOff
	}
	var im api.Image
	for i, name := range d.sortedNames() {
		k := 0
		if i < len(keep) {
			k = keep[i]
		}
		im.Files = append(im.Files, api.File{Name: name, Bytes: d.files[name].left(k, junk)})
	}
	d.losePower()
	d.crashed = true
	d.files = nil
	return im, api.OK
}

// numbered is the one place that counts a call and looks for its trouble; do is what the call does, if the trouble lets it.
func (d *Disk) numbered(do func()) api.Errno {
	d.calls++
	t := d.troubles[d.calls]
	delete(d.troubles, d.calls)
	switch t.Kind {
	case api.TrFault:
		return api.ErrFault
	case api.TrPower:
		if t.Done {
			do()
		}
		d.losePower()
		return api.ErrOff
	}
	do()
	return api.OK
}

// losePower leaves the files, for Crash has to tell what is left of them; no call will be numbered any more, so the troubles go.
func (d *Disk) losePower() {
	d.on = false
	d.troubles = nil
}

// left is what a loss of power leaves of a file: what is synced, and the first k of the bytes behind it, the last of them spoilt by junk.
func (f file) left(k int, junk byte) []byte {
	k = min(max(k, 0), len(f.bytes)-f.synced)
	b := copied(f.bytes[:f.synced+k])
	if k > 0 {
		b[len(b)-1] ^= junk
	}
	return b
}

func isTrouble(t api.Trouble) bool {
	// Where int has 32 bits, farthest is beyond it: so both are held against each other as 64 bits.
	if t.At < 1 || int64(t.At) > farthest {
		return false
	}
	switch t.Kind {
	case api.TrFault:
		return !t.Done
	case api.TrPower:
		return true
	}
	return false
}
