package disk

import "assent/api"

// Append lays bytes down behind a file's; the file is made if there is none.
func (d *Disk) Append(name string, b []byte) api.Errno {
	if e := d.ready(name); e != api.OK {
		return e
	}
	if !d.fits(name, len(b)) {
		return api.ErrFull
	}
	return d.numbered(func() {
		f := d.files[name]
		f.bytes = append(f.bytes, b...)
		d.put(name, f)
	})
}

// Sync makes all bytes of a file survive.
func (d *Disk) Sync(name string) api.Errno {
	f, e := d.find(name)
	if e != api.OK {
		return e
	}
	return d.numbered(func() {
		f.synced = len(f.bytes)
		d.put(name, f)
	})
}

// Replace puts other bytes in the place of a file's, all or nothing, and they survive.
func (d *Disk) Replace(name string, b []byte) api.Errno {
	if e := d.ready(name); e != api.OK {
		return e
	}
	if !d.fits(name, len(b)-len(d.files[name].bytes)) {
		return api.ErrFull
	}
	return d.numbered(func() { d.put(name, syncedFile(b)) })
}

// Cut leaves a file's first n bytes, all or nothing, and they survive.
func (d *Disk) Cut(name string, n int) api.Errno {
	f, e := d.find(name)
	if e != api.OK {
		return e
	}
	if n < 0 || n > len(f.bytes) {
		return api.ErrArg
	}
	// What stays is copied, so that the room of what is cut away is given back.
	return d.numbered(func() { d.put(name, syncedFile(f.bytes[:n])) })
}

// Remove takes a file away, all or nothing, and it stays away.
func (d *Disk) Remove(name string) api.Errno {
	if _, e := d.find(name); e != api.OK {
		return e
	}
	return d.numbered(func() { d.drop(name) })
}
