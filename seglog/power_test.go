package seglog_test

import (
	"slices"
	"strings"
	"testing"

	"scriptorium/api"
	"scriptorium/disk"
	"scriptorium/seglog"
)

// change is one change of a disk.
type change func(d *disk.Disk) api.Errno

func creates(name string) change { return func(d *disk.Disk) api.Errno { return d.Create(name) } }

func syncs(name string) change { return func(d *disk.Disk) api.Errno { return d.Sync(name) } }

func deletes(name string) change { return func(d *disk.Disk) api.Errno { return d.Delete(name) } }

func lays(name, b string) change {
	return func(d *disk.Disk) api.Errno { return d.Append(name, []byte(b)) }
}

func renames(from, to string) change {
	return func(d *disk.Disk) api.Errno { return d.Rename(from, to) }
}

// replaces is the changes by which a segment's file gets other bytes.
func replaces(name, b string) []change {
	return []change{creates(name + ".new"), lays(name+".new", b), syncs(name + ".new"), renames(name+".new", name)}
}

// scene is a call on a log "x" of size 20, and what it is to do.
type scene struct {
	what  string
	files []string // what is safe on the disk: a name, its bytes, and so on
	begun []string // what is appended then, and not synced
	call  func(d *disk.Disk, l *seglog.Log) api.Errno
	byHand
}

// byHand is the changes that the chapter names, and the records ahead of the call and behind it: of each segment from 1 on.
type byHand struct {
	changes []change
	old     [][]string
	new     [][]string
}

// stage is a disk as it is ahead of the call, and the log on it, but where the call is Open itself.
func (x scene) stage(t *testing.T) (*disk.Disk, *seglog.Log) {
	t.Helper()
	d := lay(t, x.files...)
	if strings.HasPrefix(x.what, "Open") {
		return d, nil
	}
	l := open(t, d, 20)
	fill(t, l, x.begun...)
	return d, l
}

func opens(d *disk.Disk, _ *seglog.Log) api.Errno {
	_, err := seglog.Open(d, "x", 20)
	return err
}

func appendsG(_ *disk.Disk, l *seglog.Log) api.Errno {
	_, err := l.Append([]byte("g"))
	return err
}

func scenes() []scene {
	ab := framed("a", "b")
	two := []string{"x.000001", ab, "x.000002", framed("c")}
	return []scene{
		{"Open", nil, nil, opens, byHand{[]change{creates("x.000001")}, nil, [][]string{nil}}},
		{"Open that changes nothing", two, nil, opens, byHand{nil, [][]string{{"a", "b"}, {"c"}}, [][]string{{"a", "b"}, {"c"}}}},
		{"Open that deletes", []string{"x.000001", ab, "x.000001.new", framed("q"), "x.000002.new", framed("r")}, nil, opens, byHand{[]change{deletes("x.000001.new"), deletes("x.000002.new")}, [][]string{{"a", "b"}}, [][]string{{"a", "b"}}}},
		{"Open that deletes and creates", []string{"x.000001.new", framed("q")}, nil, opens, byHand{[]change{deletes("x.000001.new"), creates("x.000001")}, nil, [][]string{nil}}},
		{"Open that cuts", append(slices.Clone(two[:3]), framed("c")+"torn"), nil, opens, byHand{replaces("x.000002", framed("c")), [][]string{{"a", "b"}, {"c"}}, [][]string{{"a", "b"}, {"c"}}}},
		{"Open that cuts all", append(slices.Clone(two[:3]), "torn"), nil, opens, byHand{replaces("x.000002", ""), [][]string{{"a", "b"}, nil}, [][]string{{"a", "b"}, nil}}},
		{"Open that deletes and cuts", []string{"x.000001", ab + "torn", "x.000001.new", framed("q")}, nil, opens, byHand{append([]change{deletes("x.000001.new")}, replaces("x.000001", ab)...), [][]string{{"a", "b"}}, [][]string{{"a", "b"}}}},
		{"Append", two, []string{"e"}, appendsG, byHand{[]change{lays("x.000002", framed("g"))}, [][]string{{"a", "b"}, {"c", "e"}}, [][]string{{"a", "b"}, {"c", "e", "g"}}}},
		{"Append that rolls", two, []string{"e", "f"}, appendsG, byHand{[]change{syncs("x.000002"), creates("x.000003"), lays("x.000003", framed("g"))}, [][]string{{"a", "b"}, {"c", "e", "f"}}, [][]string{{"a", "b"}, {"c", "e", "f"}, {"g"}}}},
		{"Sync", two, []string{"e", "f"}, func(_ *disk.Disk, l *seglog.Log) api.Errno { return l.Sync() }, byHand{[]change{syncs("x.000002")}, [][]string{{"a", "b"}, {"c", "e", "f"}}, [][]string{{"a", "b"}, {"c", "e", "f"}}}},
		{"Roll", two, []string{"e"}, func(_ *disk.Disk, l *seglog.Log) api.Errno { return l.Roll() }, byHand{[]change{syncs("x.000002"), creates("x.000003")}, [][]string{{"a", "b"}, {"c", "e"}}, [][]string{{"a", "b"}, {"c", "e"}, nil}}},
		{"Rewrite", two, []string{"e"}, func(_ *disk.Disk, l *seglog.Log) api.Errno { return l.Rewrite(1, recs("q", "rst")) }, byHand{replaces("x.000001", framed("q", "rst")), [][]string{{"a", "b"}, {"c", "e"}}, [][]string{{"q", "rst"}, {"c", "e"}}}},
		{"Rewrite to none", two, []string{"e"}, func(_ *disk.Disk, l *seglog.Log) api.Errno { return l.Rewrite(1, nil) }, byHand{replaces("x.000001", ""), [][]string{{"a", "b"}, {"c", "e"}}, [][]string{nil, {"c", "e"}}}},
		{"Rewrite the last", two, []string{"e"}, func(_ *disk.Disk, l *seglog.Log) api.Errno { return l.Rewrite(2, recs("q", "rst")) }, byHand{replaces("x.000002", framed("q", "rst")), [][]string{{"a", "b"}, {"c", "e"}}, [][]string{{"a", "b"}, {"q", "rst"}}}},
		{"Drop", two, []string{"e"}, func(_ *disk.Disk, l *seglog.Log) api.Errno { return l.Drop(1) }, byHand{[]change{deletes("x.000001")}, [][]string{{"a", "b"}, {"c", "e"}}, [][]string{nil, {"c", "e"}}}},
	}
}

// alike fails the test unless both disks have the same files, and the same of them is safe.
func alike(t *testing.T, what string, d, twin *disk.Disk) {
	t.Helper()
	for range 2 {
		var pairs []string
		for _, name := range twin.Names() {
			b, _ := twin.Read(name)
			pairs = append(pairs, name, string(b))
		}
		files(t, what, d, pairs...)
		fail(t, d)
		fail(t, twin)
		d.Start(nil)
		twin.Start(nil)
	}
}

// hand does the changes, up to the first error.
func hand(d *disk.Disk, changes []change) api.Errno {
	for _, do := range changes {
		if err := do(d); err != api.OK {
			return err
		}
	}
	return api.OK
}

// P7, and the changes that P3.1 to P3.7 name: the power fails in each, and the disk is then as it is by hand, whatever is kept of the tails.
func TestChanges(t *testing.T) {
	for _, x := range scenes() {
		for n := range len(x.changes) + 2 {
			for _, keep := range [][]int{nil, {1}, {5, 5}, {0, 9}, {99, 99, 99}} {
				d, l := x.stage(t)
				twin, _ := x.stage(t)
				d.Arm(n)
				twin.Arm(n)
				got, err := x.call(d, l), hand(twin, x.changes)
				if got != err || d.Down() != twin.Down() || d.Down() != (n > 0 && n <= len(x.changes)) {
					t.Errorf("%s, Arm(%d): got %d, down %v, want %d, down %v", x.what, n, got, d.Down(), err, twin.Down())
				}
				d.Start(keep)
				twin.Start(keep)
				alike(t, x.what, d, twin)
			}
		}
	}
}

// found is the records of each segment from 1 on, up to the greatest.
func found(l *seglog.Log) [][]string {
	var out [][]string
	for _, seg := range l.Segments() {
		for len(out) < seg-1 {
			out = append(out, nil)
		}
		out = append(out, texts(l, seg))
	}
	return out
}

// begins is whether l has at its beginning all that short has.
func begins(l, short []string) bool {
	return len(l) >= len(short) && slices.Equal(l[:len(short)], short)
}

// either is whether got is old, new, or something between, of each segment; but of one that is appended to, at least what was safe.
func either(got, old, new [][]string, last int, safe []string) bool {
	for i, l := range got {
		var was, is []string
		if i < len(old) {
			was = old[i]
		}
		if i < len(new) {
			is = new[i]
		}
		if slices.Equal(l, was) || slices.Equal(l, is) {
			continue
		}
		if i+1 < last || !begins(was, l) && !begins(is, l) || i+1 == last && !begins(l, safe) {
			return false
		}
	}
	return len(got) >= len(old)
}

// P3.9: behind each failure, whatever of the tails is left, Open finds what was safe, in order, and takes more.
func TestRecovered(t *testing.T) {
	for _, x := range scenes() {
		for n := 1; n <= len(x.changes); n++ {
			for kept := range 30 * 3 {
				d, l := x.stage(t)
				d.Arm(n)
				if err := x.call(d, l); err != api.ErrDead {
					t.Fatalf("%s, Arm(%d): got %d", x.what, n, err)
				}
				if l != nil {
					dead(t, x.what, l)
				}
				d.Start([][]int{{kept / 3}, {0, kept / 3}, {kept / 3, kept / 3}}[kept%3])
				if l != nil {
					dead(t, x.what+", with power again", l)
				}
				l = open(t, d, 20)
				got := found(l)
				if !either(got, x.old, x.new, 2, []string{"c"}) {
					t.Errorf("%s, Arm(%d), keep %d: got %q, between %q and %q", x.what, n, kept, got, x.old, x.new)
				}
				works(t, x.what, d, l, got)
			}
		}
	}
}

// works fails the test unless the log takes more behind what it has, and has it when it is opened again.
func works(t *testing.T, what string, d *disk.Disk, l *seglog.Log, had [][]string) {
	t.Helper()
	for _, name := range d.Names() {
		if strings.HasSuffix(name, ".new") {
			t.Errorf("%s: file %q is left", what, name)
		}
	}
	if _, err := l.Append([]byte("more")); err != api.OK || l.Sync() != api.OK {
		t.Errorf("%s: Append behind a start: %d", what, err)
	}
	fail(t, d)
	d.Start(nil)
	got, all := slices.Concat(found(open(t, d, 20))...), append(slices.Concat(had...), "more")
	if !slices.Equal(got, all) {
		t.Errorf("%s: got %q, want %q", what, got, all)
	}
}

// Each tail that may be kept of records that were appended, and not synced: those that are whole are there, and the torn one is not.
func TestRecoveredTails(t *testing.T) {
	later := []string{"", "abc", "0123456789", "", "d"}
	tail := framed(later...)
	for keep := range len(tail) + 2 {
		d := disk.New(1000)
		l := open(t, d, 1000)
		fill(t, l, "safe", "")
		want(t, "sync", []api.Errno{l.Sync()}, api.OK)
		fill(t, l, later...)
		fail(t, d)
		d.Start([]int{keep})
		whole := len(later)
		for len(framed(later[:whole]...)) > keep {
			whole--
		}
		all := append([]string{"safe", ""}, later[:whole]...)
		tells(t, "kept", open(t, d, 1000), 1, all)
		files(t, "kept", d, "x.000001", framed(all...))
	}
}

// The power fails over and over, also in the Open that mends the last failure.
func TestRecoveredFromOpenOverAndOver(t *testing.T) {
	torn := framed("abc", "d") + framed("torn")[:9]
	for first := range 6 {
		for second := range 6 {
			for keep := range 40 {
				d := lay(t, "x.000001", torn, "x.000001.new", framed("q"))
				for _, n := range []int{first, second} {
					d.Arm(n)
					if l, err := seglog.Open(d, "x", 100); err != api.OK && (err != api.ErrDead || l != nil) {
						t.Errorf("Open: got %v, %d", l, err)
					}
					d.Start([]int{keep})
				}
				d.Arm(0)
				tells(t, "over and over", open(t, d, 100), 1, []string{"abc", "d"})
				files(t, "over and over", d, "x.000001", framed("abc", "d"))
			}
		}
	}
}

// Without room the file .new is deleted; the power may fail in that, too. Open answers ErrFull all the same, Rewrite ErrDead.
func TestFailureBehindAFullDisk(t *testing.T) {
	torn := framed("abc", "d") + "?"
	for n := range 4 {
		d := lay(t, "x.000001", torn)
		d.Limit(len(torn))
		d.Arm(n)
		err := api.ErrFull
		if n == 1 {
			err = api.ErrDead
		}
		refuses(t, "cut", d, "x", 100, err)
		if d.Down() != (n == 1 || n == 2) {
			t.Errorf("Open, Arm(%d): down %v", n, d.Down())
		}
		d.Arm(0)
		d.Start(nil)
		if n == 2 {
			files(t, "Open's deletion", d, "x.000001", torn, "x.000001.new", "")
		} else {
			files(t, "Open", d, "x.000001", torn)
		}
		d.Limit(1000)
		tells(t, "Open again", open(t, d, 100), 1, []string{"abc", "d"})
	}
	for n := range 4 {
		d, l := filled(t, 100, "abc", "d")
		want(t, "sync", []api.Errno{l.Sync()}, api.OK)
		d.Limit(20)
		d.Arm(n)
		err := api.ErrFull
		if n == 1 || n == 2 {
			err = api.ErrDead
		}
		want(t, "rewrite", []api.Errno{l.Rewrite(1, recs("q"))}, err)
		if d.Down() != (err == api.ErrDead) {
			t.Errorf("Rewrite, Arm(%d): down %v", n, d.Down())
		}
		if err == api.ErrDead {
			dead(t, "rewrite", l)
		}
		d.Arm(0)
		d.Start(nil)
		if n == 2 {
			files(t, "Rewrite's deletion", d, "x.000001", framed("abc", "d"), "x.000001.new", "")
			dead(t, "rewrite, with power again", l)
		} else {
			files(t, "Rewrite", d, "x.000001", framed("abc", "d"))
		}
		d.Limit(1000)
		tells(t, "Open again", open(t, d, 100), 1, []string{"abc", "d"})
	}
}
