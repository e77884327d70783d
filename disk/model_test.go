package disk_test

import (
	"maps"
	"slices"
	"strings"
	"testing"

	"scriptorium/api"
	"scriptorium/disk"
)

// model is the chapter said over again in texts, without an eye to time or room: what the disk is held against.
type model struct {
	safe, tail map[string]string
	room, left int
	down       bool
}

func (m *model) used() int {
	n := 0
	for name := range m.safe {
		n += len(m.safe[name]) + len(m.tail[name])
	}
	return n
}

func (m *model) lay(name, safe, tail string) { m.safe[name], m.tail[name] = safe, tail }

func (m *model) gone(name string) {
	delete(m.safe, name)
	delete(m.tail, name)
}

// step is whether the next change is whole.
func (m *model) step() bool {
	m.left--
	m.down = m.left == 0
	return !m.down
}

// stands is the error ahead of a change; must tells that there has to be a file.
func (m *model) stands(must bool, names ...string) api.Errno {
	if m.down {
		return api.ErrDead
	}
	if slices.ContainsFunc(names, func(s string) bool { return s == "" || strings.ContainsAny(s, "A_/") }) {
		return api.ErrName
	}
	if _, ok := m.safe[names[0]]; must && !ok {
		return api.ErrNone
	}
	return api.OK
}

func (m *model) after(whole bool, do func()) api.Errno {
	if !whole {
		return api.ErrDead
	}
	do()
	return api.OK
}

func (m *model) add(name, b string) api.Errno {
	if err := m.stands(false, name); err != api.OK {
		return err
	}
	if m.used()+len(b) > m.room {
		return api.ErrFull
	}
	m.lay(name, m.safe[name], m.tail[name]+b)
	return m.after(m.step(), func() {})
}

func (m *model) create(name string) api.Errno {
	if err := m.stands(false, name); err != api.OK {
		return err
	}
	return m.after(m.step(), func() { m.lay(name, "", "") })
}

func (m *model) sync(name string) api.Errno {
	if err := m.stands(true, name); err != api.OK {
		return err
	}
	return m.after(m.step(), func() { m.lay(name, m.safe[name]+m.tail[name], "") })
}

func (m *model) rename(from, to string) api.Errno {
	if err := m.stands(true, from, to); err != api.OK {
		return err
	}
	return m.after(m.step(), func() {
		safe, tail := m.safe[from], m.tail[from]
		m.gone(from)
		m.lay(to, safe, tail)
	})
}

func (m *model) remove(name string) api.Errno {
	if err := m.stands(true, name); err != api.OK {
		return err
	}
	return m.after(m.step(), func() { m.gone(name) })
}

func (m *model) start(keep []int) {
	if !m.down {
		return
	}
	i := 0
	for _, name := range slices.Sorted(maps.Keys(m.tail)) {
		tail := m.tail[name]
		if tail == "" {
			continue
		}
		n := 0
		if i < len(keep) {
			n = min(max(keep[i], 0), len(tail))
		}
		i++
		m.lay(name, m.safe[name]+tail[:n], "")
	}
	m.down, m.left = false, 0
}

// draw is numbers that look drawn by lot, the same in each run.
type draw uint64

func (x *draw) below(n int) int {
	*x = *x*6364136223846793005 + 1442695040888963407
	return int(uint64(*x) >> 33 % uint64(n))
}

func (x *draw) name() string {
	return []string{"a", "b", "c", "d", "a.new", "", "A", "b_"}[x.below(8)]
}

func (x *draw) bytes() string {
	b := make([]byte, x.below(7))
	for i := range b {
		b[i] = byte(x.below(256))
	}
	return string(b)
}

func (x *draw) keep() []int {
	l := make([]int, x.below(5))
	for i := range l {
		l[i] = x.below(10) - 2
	}
	return l
}

// play does one thing that is drawn by lot to both, and tells both errors.
func play(x *draw, d *disk.Disk, m *model) (string, api.Errno, api.Errno) {
	name, b, n := x.name(), x.bytes(), x.below(12)-2
	switch x.below(16) {
	case 0, 1, 2, 3, 4:
		return "Append", d.Append(name, []byte(b)), m.add(name, b)
	case 5:
		return "Create", d.Create(name), m.create(name)
	case 6, 7, 8:
		return "Sync", d.Sync(name), m.sync(name)
	case 9, 10:
		to := x.name()
		return "Rename", d.Rename(name, to), m.rename(name, to)
	case 11:
		return "Delete", d.Delete(name), m.remove(name)
	case 12:
		d.Limit(n * 10)
		m.room = max(n*10, 0)
		return "Limit", 0, 0
	case 13:
		d.Arm(n)
		if !m.down {
			m.left = max(n, 0)
		}
		return "Arm", 0, 0
	default:
		keep := x.keep()
		d.Start(keep)
		m.start(keep)
		return "Start", 0, 0
	}
}

func same(d *disk.Disk, m *model) bool {
	if m.down {
		_, err := d.Read("a")
		return d.Down() && d.Names() == nil && d.Used() == 0 && d.Free() == 0 && err == api.ErrDead
	}
	for name := range m.safe {
		if b, err := d.Read(name); string(b) != m.safe[name]+m.tail[name] || err != api.OK {
			return false
		}
	}
	return !d.Down() && slices.Equal(d.Names(), slices.Sorted(maps.Keys(m.safe))) && d.Used() == m.used() && d.Free() == max(m.room-m.used(), 0)
}

func TestModel(t *testing.T) {
	for seed := range 300 {
		x := draw(seed)
		d, m := disk.New(60), &model{map[string]string{}, map[string]string{}, 60, 0, false}
		for i := range 300 {
			what, got, err := play(&x, d, m)
			if got != err || !same(d, m) {
				t.Fatalf("script %d, step %d, %s: got %d, %q, want %d, %q, %q", seed, i, what, got, d.Names(), err, m.safe, m.tail)
			}
		}
	}
}

// P1.11: a script of changes is cut off by the power in each of them, with each count of bytes kept; what was safe at that time is there.
func TestSafe(t *testing.T) {
	script := func(d *disk.Disk, seen func()) {
		for _, change := range []func() api.Errno{
			func() api.Errno { return d.Append("a", []byte("12")) },
			func() api.Errno { return d.Sync("a") },
			func() api.Errno { return d.Append("a", []byte("34")) },
			func() api.Errno { return d.Append("b", []byte("567")) },
			func() api.Errno { return d.Sync("b") },
			func() api.Errno { return d.Append("b", []byte("8")) },
			func() api.Errno { return d.Create("c") },
			func() api.Errno { return d.Rename("b", "c") },
			func() api.Errno { return d.Append("a", []byte("9")) },
			func() api.Errno { return d.Sync("a") },
			func() api.Errno { return d.Append("c", nil) },
		} {
			if change() != api.OK {
				return
			}
			seen()
		}
	}
	// What is safe behind so many changes, said by hand.
	safe := []map[string]string{{}, {"a": ""}, {"a": "12"}, {"a": "12"}, {"a": "12", "b": ""}, {"a": "12", "b": "567"}, {"a": "12", "b": "567"}, {"a": "12", "b": "567", "c": ""}, {"a": "12", "c": "567"}, {"a": "12", "c": "567"}, {"a": "12349", "c": "567"}}
	for n := 1; n <= len(safe); n++ {
		for keep := -1; keep < 5; keep++ {
			d := disk.New(100)
			d.Arm(n)
			done := 0
			script(d, func() { done++ })
			if done != n-1 || !d.Down() {
				t.Fatalf("Arm(%d): %d changes, down %v", n, done, d.Down())
			}
			d.Start([]int{keep, keep})
			for name, b := range safe[done] {
				if got, err := d.Read(name); !strings.HasPrefix(string(got), b) || err != api.OK {
					t.Errorf("Arm(%d), keep %d: %s is %q, %d; safe was %q", n, keep, name, got, err, b)
				}
			}
		}
	}
}
