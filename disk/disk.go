// Package disk is layer 1, files on a disk whose power may fail: see shared/doc/01-disk.md.
package disk

import (
	"iter"
	"maps"
	"slices"

	"scriptorium/api"
)

// Disk is files by name: what is safe of each, and what only seems to be there.
type Disk struct {
	files map[string]file // nil only of a Disk that New did not make
	room  int
	used  int // kept beside the files, so that no change has to count through them all
	left  int // the power fails in this change from now on; below 1: in none
	down  bool
}

// file is bytes: the first ones are safe, those behind are the tail.
type file struct {
	data []byte
	safe int
}

// New: P1.1.
func New(room int) *Disk {
	return &Disk{files: map[string]file{}, room: max(room, 0)}
}

// Append: P1.3.
func (d *Disk) Append(name string, b []byte) api.Errno {
	if err := d.refuse(name); err != api.OK {
		return err
	}
	if d.used+len(b) > d.room {
		return api.ErrFull
	}
	add := func() {
		f := d.files[name]
		d.put(name, file{append(f.data, b...), f.safe})
	}
	// The bytes reach the tail even where the power fails: how many of them last is said by Start.
	return d.change(add, add)
}

// Create: P1.4.
func (d *Disk) Create(name string) api.Errno {
	if err := d.refuse(name); err != api.OK {
		return err
	}
	return d.change(func() { d.put(name, file{}) }, nothing)
}

// Sync: P1.5.
func (d *Disk) Sync(name string) api.Errno {
	f, err := d.find(name)
	if err != api.OK {
		return err
	}
	return d.change(func() { d.put(name, file{f.data, len(f.data)}) }, nothing)
}

// Rename: P1.6.
func (d *Disk) Rename(from, to string) api.Errno {
	f, err := d.find(from, to)
	if err != api.OK {
		return err
	}
	// First gone, then there: so a file that is given its own name stays.
	return d.change(func() {
		d.remove(from)
		d.put(to, f)
	}, nothing)
}

// Delete: P1.6.
func (d *Disk) Delete(name string) api.Errno {
	if _, err := d.find(name); err != api.OK {
		return err
	}
	return d.change(func() { d.remove(name) }, nothing)
}

// Read: P1.7.
func (d *Disk) Read(name string) ([]byte, api.Errno) {
	f, err := d.find(name)
	return slices.Clone(f.data), err
}

// Names: P1.7.
func (d *Disk) Names() []string {
	if d.Down() {
		return nil
	}
	return slices.Collect(d.names())
}

// Used: P1.7.
func (d *Disk) Used() int {
	if d.Down() {
		return 0
	}
	return d.used
}

// Free: P1.7.
func (d *Disk) Free() int {
	if d.Down() {
		return 0
	}
	return max(d.room-d.used, 0)
}

// Limit: P1.8. It holds of a disk without power, too.
func (d *Disk) Limit(room int) {
	if d.made() {
		d.room = max(room, 0)
	}
}

// Arm: P1.9.
func (d *Disk) Arm(n int) {
	if d.made() {
		d.left = n
	}
}

// Down: P1.9.
func (d *Disk) Down() bool { return !d.made() || d.down }

// Start: P1.10.
func (d *Disk) Start(keep []int) {
	if !d.made() || !d.down {
		return
	}
	for name := range d.names() {
		f := d.files[name]
		tail := len(f.data) - f.safe
		if tail == 0 {
			continue
		}
		n := 0
		if len(keep) > 0 {
			n = min(max(keep[0], 0), tail)
			keep = keep[1:]
		}
		d.put(name, settled(f, f.safe+n))
	}
	d.down, d.left = false, 0
}

// Name: P1.2.
func Name(s string) bool {
	if len(s) < 1 || len(s) > 64 {
		return false
	}
	for i := range len(s) {
		if !nameByte(s[i]) {
			return false
		}
	}
	return true
}

func nameByte(c byte) bool {
	return c >= 'a' && c <= 'z' || c >= '0' && c <= '9' || c == '-' || c == '.'
}

// settled is the file's first size bytes, all safe: copied, so that what is cut off is not kept.
func settled(f file, size int) file {
	return file{append([]byte(nil), f.data[:size]...), size}
}

func (d *Disk) made() bool { return d != nil && d.files != nil }

// refuse is the error that stands ahead of those of each call's own.
func (d *Disk) refuse(names ...string) api.Errno {
	if d.Down() {
		return api.ErrDead
	}
	for _, name := range names {
		if !Name(name) {
			return api.ErrName
		}
	}
	return api.OK
}

// find is the file by the first name; the others are only held against the rule, ahead of whether there is that file.
func (d *Disk) find(names ...string) (file, api.Errno) {
	if err := d.refuse(names...); err != api.OK {
		return file{}, err
	}
	f, ok := d.files[names[0]]
	if !ok {
		return file{}, api.ErrNone
	}
	return f, api.OK
}

// change does whole; but if it is the change in which the power fails, it does cut, and the disk is down behind it.
func (d *Disk) change(whole, cut func()) api.Errno {
	if d.left == 1 {
		cut()
		d.down = true
		return api.ErrDead
	}
	if d.left > 1 {
		d.left--
	}
	whole()
	return api.OK
}

func nothing() {}

// put lays the file under that name, instead of one that had it.
func (d *Disk) put(name string, f file) {
	d.used += len(f.data) - len(d.files[name].data)
	d.files[name] = f
}

func (d *Disk) remove(name string) {
	d.used -= len(d.files[name].data)
	delete(d.files, name)
}

// names tells the files' names, rising.
func (d *Disk) names() iter.Seq[string] {
	return slices.Values(slices.Sorted(maps.Keys(d.files)))
}
