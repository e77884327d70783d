package archive_test

import (
	"math/rand/v2"
	"slices"
	"strconv"
	"strings"
	"testing"

	"scriptorium/api"
	"scriptorium/archive"
	"scriptorium/disk"
)

// change is one change of a disk.
type change func(d *disk.Disk) api.Errno

func creates(name string) change { return func(d *disk.Disk) api.Errno { return d.Create(name) } }

func syncs(name string) change { return func(d *disk.Disk) api.Errno { return d.Sync(name) } }

func deletes(name string) change { return func(d *disk.Disk) api.Errno { return d.Delete(name) } }

func lays(name, rec string) change {
	return func(d *disk.Disk) api.Errno { return d.Append(name, []byte(framed(rec))) }
}

func renames(from, to string) change {
	return func(d *disk.Disk) api.Errno { return d.Rename(from, to) }
}

// replaces is the changes by which a segment gets other records.
func replaces(num int, recs []string) []change {
	spare := name(num) + ".new"
	add := func(d *disk.Disk) api.Errno { return d.Append(spare, []byte(framed(recs...))) }
	return []change{creates(spare), add, syncs(spare), renames(spare, name(num))}
}

// hand does the changes, up to the first error.
func hand(d *disk.Disk, changes []change) api.Errno {
	for _, do := range changes {
		if err := do(d); err != api.OK {
			return err
		}
	}
	return api.OK
}

// size is that of the segments of all scenes: two messages fill one.
const size = 120

// scene is a call on an archive, and what it is to do.
type scene struct {
	what    string
	segs    [][]string // what is safe on the disk
	more    string     // and a file beside the segments: its bytes are these
	full    bool       // an Ingest has failed ahead of the call for want of room: the last segment is closed, the next one empty
	call    func(d *disk.Disk, a *archive.Archive) api.Errno
	changes []change // those that the chapter names
	states  []*model // what the archive may be behind a failure: as it was, .., as it is behind the call
}

// stage is a disk as it is ahead of the call, and the archive on it, but where the call is Open itself.
func (x scene) stage(t *testing.T) (*disk.Disk, *archive.Archive) {
	t.Helper()
	d := lay(t, x.segs...)
	if x.more != "" {
		set(t, d, "arch.000001.new", x.more)
	}
	if strings.HasPrefix(x.what, "Open") {
		return d, nil
	}
	a := open(t, d, config(size))
	if x.full {
		d.Limit(0)
		if _, err := a.Ingest(plain(0), nil); err != api.ErrFull {
			t.Fatalf("%s: Ingest without room: got %d", x.what, err)
		}
		d.Limit(room)
	}
	return d, a
}

func ingestsOne(_ *disk.Disk, a *archive.Archive) api.Errno {
	_, err := a.Ingest(plain(0), []byte("the new one"))
	return err
}

func holdsOne(_ *disk.Disk, a *archive.Archive) api.Errno {
	return a.Hold(api.Hold{Name: "new", Who: "a@b"})
}

func liftsOne(_ *disk.Disk, a *archive.Archive) api.Errno { return a.Lift("h") }

func opensIt(d *disk.Disk, _ *archive.Archive) api.Errno {
	_, err := archive.Open(d, config(size))
	return err
}

func purgesThose(ids ...int64) func(*disk.Disk, *archive.Archive) api.Errno {
	return func(_ *disk.Disk, a *archive.Archive) api.Errno {
		_, err := a.Purge(15, ids)
		return err
	}
}

// states are the models of those segments, one behind the other; what is bare is sealed, as Open does.
func states(all ...[][]string) []*model {
	var l []*model
	for _, segs := range all {
		m := modelOf(size, segs)
		m.seal()
		l = append(l, m)
	}
	return l
}

// with is segs with those records behind the last one's.
func with(segs [][]string, recs ...string) [][]string {
	out := slices.Clone(segs)
	n := len(out) - 1
	out[n] = append(slices.Clone(out[n]), recs...)
	return out
}

// instead is segs with other records in that segment, from 1 on.
func instead(segs [][]string, num int, recs ...string) [][]string {
	out := slices.Clone(segs)
	out[num-1] = recs
	return out
}

// scenes are Ingest, Hold and Lift in a segment, and where the next one is begun, or was begun without room for more; Purge in one segment, in several, in the last one; Open that creates, deletes, cuts, seals.
func scenes() []scene {
	h := held("h", "q@q")
	next := func(id int64) string {
		return told(api.Message{ID: id, Class: "all", Env: plain(0), Body: []byte("the new one")})
	}
	open := [][]string{{h, msg(1)}}
	full := [][]string{{h, msg(1), msg(2), msg(3)}}
	bare := [][]string{full[0], nil}
	more := chained(full[0], []string{msg(4)})
	much := chained([]string{h, msg(1), msg(2)}, []string{msg(3), msg(4)}, []string{msg(5), gone(6)}, []string{msg(7)})
	seal := due(1, full)
	var all []scene
	for what, x := range map[string]struct {
		rec  func(id int64) string
		call func(*disk.Disk, *archive.Archive) api.Errno
	}{
		"Ingest": {next, ingestsOne},
		"Hold":   {func(int64) string { return held("new", "a@b") }, holdsOne},
		"Lift":   {func(int64) string { return lifted("h") }, liftsOne},
	} {
		all = append(all,
			scene{what: what, segs: open, call: x.call, changes: []change{lays(name(1), x.rec(2)), syncs(name(1))}, states: states(open, with(open, x.rec(2)))},
			scene{what: what + " that rolls", segs: full, call: x.call, changes: []change{syncs(name(1)), creates(name(2)), lays(name(2), seal), lays(name(2), x.rec(4)), syncs(name(2))}, states: states(full, bare, with(bare, seal, x.rec(4)))},
			scene{what: what + " where the last segment is empty", segs: full, full: true, call: x.call, changes: []change{lays(name(2), seal), lays(name(2), x.rec(4)), syncs(name(2))}, states: states(bare, with(bare, seal, x.rec(4)))},
			scene{what: what + " in a later segment", segs: more, call: x.call, changes: []change{syncs(name(2)), creates(name(3)), lays(name(3), due(1, more)), lays(name(3), x.rec(5)), syncs(name(3))}, states: states(more, append(slices.Clone(more), nil), append(slices.Clone(more), []string{due(1, more), x.rec(5)}))},
		)
	}
	out := func(id int64) string { return left(id, 15, leafOf(msg(id))) }
	one := instead(much, 1, h, out(1), msg(2))
	two := instead(one, 3, much[2][0], out(5), gone(6))
	last := instead(two, 4, much[3][0], out(7))
	all = append(all,
		scene{what: "Purge of none", segs: much, call: purgesThose(6, 8), states: states(much)},
		scene{what: "Purge of one", segs: much, call: purgesThose(1), changes: replaces(1, one[0]), states: states(much, one)},
		scene{what: "Purge of some", segs: much, call: purgesThose(7, 5, 1, 5), changes: slices.Concat(replaces(1, one[0]), replaces(3, two[2]), replaces(4, last[3])), states: states(much, one, two, last)},
		scene{what: "Purge in the last one", segs: open, call: purgesThose(1), changes: replaces(1, []string{h, out(1)}), states: states(open, [][]string{{h, out(1)}})},
		scene{what: "Open", call: opensIt, changes: []change{creates(name(1))}, states: states([][]string{nil})},
		scene{what: "Open that changes nothing", segs: much, call: opensIt, states: states(much)},
		scene{what: "Open that deletes", segs: much, more: "x", call: opensIt, changes: []change{deletes(name(1) + ".new")}, states: states(much)},
		scene{what: "Open that seals", segs: bare, call: opensIt, changes: []change{lays(name(2), seal), syncs(name(2))}, states: states(bare)},
		scene{what: "Open that deletes and seals", segs: bare, more: "x", call: opensIt, changes: []change{deletes(name(1) + ".new"), lays(name(2), seal), syncs(name(2))}, states: states(bare)},
	)
	return all
}

// samely fails the test unless both disks have the same files, and the same of them is safe.
func samely(t *testing.T, what string, d, twin *disk.Disk) {
	t.Helper()
	for range 2 {
		if got, want := contents(d), contents(twin); !slices.Equal(got, want) {
			t.Errorf("%s: got %s, want %s", what, short(got), short(want))
		}
		fail(t, d)
		fail(t, twin)
		d.Start(nil)
		twin.Start(nil)
	}
}

// P7, and the changes that the chapter names: the power fails in each, and the disk is then as it is by hand, whatever is kept of the tails.
func TestChanges(t *testing.T) {
	for _, x := range scenes() {
		for n := range len(x.changes) + 2 {
			for _, keep := range [][]int{nil, {1}, {50, 5}, {0, 90}, {999, 999, 999}} {
				d, a := x.stage(t)
				twin, _ := x.stage(t)
				d.Arm(n)
				twin.Arm(n)
				got, err := x.call(d, a), hand(twin, x.changes)
				if got != err || d.Down() != twin.Down() || d.Down() != (n > 0 && n <= len(x.changes)) {
					t.Errorf("%s, Arm(%d): got %d, down %v, want %d, down %v", x.what, n, got, d.Down(), err, twin.Down())
				}
				d.Start(keep)
				twin.Start(keep)
				samely(t, x.what, d, twin)
			}
		}
	}
}

// either is the first of those states that the archive is in; it fails the test, if it is in none.
func either(t *testing.T, what string, d *disk.Disk, a *archive.Archive, all []*model) *model {
	t.Helper()
	var why []string
	for _, m := range all {
		s := differs(d, a, m)
		if s == "" {
			return m.clone()
		}
		why = append(why, s)
	}
	t.Fatalf("%s: it is nothing that it may be: %s", what, short(why))
	return nil
}

// goesOn fails the test unless the archive takes more of all, and has it when it is opened again.
func goesOn(t *testing.T, what string, d *disk.Disk, a *archive.Archive, m *model) {
	t.Helper()
	for range 3 {
		ingests(t, a, plain(1), "more", m.last+1)
		want(t, what, m.ingest(plain(1), "more"), api.OK)
	}
	want(t, what, a.Hold(api.Hold{Name: "more", Who: "c@x"}), m.hold("more", "c@x"))
	purges(t, what, d, a, m, 11, []int64{1, 2, 3, m.last}, slices.DeleteFunc(m.propose(11), func(id int64) bool { return id > 3 && id < m.last })...)
	fail(t, d)
	d.Start(nil)
	holds(t, what+", opened again", d, open(t, d, config(size)), m)
}

// tails are how many bytes may be kept of the tails, of one file or of more: about what a seal has, and a message behind it.
func tails() [][]int {
	l := [][]int{nil, {999, 999}, {0, 999}, {999, 0}, {0, 60}}
	for _, n := range []int{1, 8, 40, 80, 81, 82, 90, 120, 126, 127, 128} {
		l = append(l, []int{n})
	}
	return l
}

// P17.10: behind each failure, whatever of the tails is left, an archive is what it was, or what it was to become; a Purge may be done with some segments.
func TestKept(t *testing.T) {
	for _, x := range scenes() {
		for n := 1; n <= len(x.changes); n++ {
			for i, keep := range tails() {
				d, a := x.stage(t)
				d.Arm(n)
				if err := x.call(d, a); err != api.ErrDead {
					t.Fatalf("%s, Arm(%d): got %d", x.what, n, err)
				}
				if a != nil && i == 0 {
					dead(t, x.what, a)
				}
				d.Start(keep)
				what := x.what + ", Arm(" + strconv.Itoa(n) + ")"
				a = open(t, d, config(size))
				m := either(t, what, d, a, x.states)
				goesOn(t, what, d, a, m)
			}
		}
	}
}

// Where what follows a failure fails again, and again.
func TestKeptOverAndOver(t *testing.T) {
	for _, x := range scenes() {
		for n := 1; n <= len(x.changes); n++ {
			for _, first := range []int{0, 40, 85, 999} {
				for again := 1; again < 7; again++ {
					for _, second := range []int{0, 40, 999} {
						d, a := x.stage(t)
						d.Arm(n)
						x.call(d, a)
						d.Start([]int{first, second})
						for range 2 {
							d.Arm(again)
							if a, err := archive.Open(d, config(size)); err != api.OK && (err != api.ErrDead || a != nil) {
								t.Fatalf("%s: Open: got %d", x.what, err)
							}
							d.Start([]int{second})
						}
						d.Arm(0)
						a = open(t, d, config(size))
						either(t, x.what+", over and over", d, a, x.states)
					}
				}
			}
		}
	}
}

// A failure in what comes behind one: in the Purge that is asked again, in the Ingest that is tried again.
func TestKeptWhenItIsAskedAgain(t *testing.T) {
	for _, x := range scenes() {
		for n := 1; n <= len(x.changes); n++ {
			for again := 1; again <= len(x.changes); again++ {
				for _, keep := range []int{0, 30, 85, 999} {
					d, a := x.stage(t)
					d.Arm(n)
					x.call(d, a)
					d.Start([]int{keep})
					a = open(t, d, config(size))
					d.Arm(again)
					before := either(t, x.what, d, a, x.states)
					what := x.what + ", asked again"
					x.call(d, a)
					if !d.Down() {
						continue
					}
					d.Start([]int{keep})
					a = open(t, d, config(size))
					for _, id := range before.numbers() {
						if m, err := a.Fetch(id); err == api.OK && !alike(m, before.live[id]) || err != api.OK && !strings.HasPrefix(x.what, "Purge") {
							t.Fatalf("%s: Fetch(%d): got %v, %d", what, id, m, err)
						}
					}
					audits(t, what, d, 0)
				}
			}
		}
	}
}

// step does one thing that is drawn by lot to both, and answers both errors.
func step(t *testing.T, r *rand.Rand, a *archive.Archive, m *model) (string, api.Errno, api.Errno) {
	t.Helper()
	names := []string{"h", "g", "case-1", "H", ""}
	whose := []string{"a@x.org", "c@D", "", "nobody"}
	switch r.IntN(8) {
	case 0, 1, 2, 3:
		e := sent(drawn(r, []string{"a@X.org", "", "a@y.org", "c@d"}), int64(r.IntN(30)), drawn(r, []string{"c@d", "a@x.org", "e@f", "none"}))
		body := strings.Repeat("b", r.IntN(200))
		before := m.last
		id, err := a.Ingest(e, []byte(body))
		if strings.HasSuffix(e.To[0], "none") {
			return "Ingest of what may not be", err, api.ErrEntry
		}
		want := m.ingest(e, body)
		if err == api.OK && id != m.last || m.last != before && want != api.OK {
			t.Fatalf("Ingest: got %d, want %d", id, m.last)
		}
		return "Ingest", err, want
	case 4:
		h := api.Hold{Name: drawn(r, names), Who: drawn(r, whose)}
		return "Hold", a.Hold(h), m.hold(h.Name, h.Who)
	case 5:
		name := drawn(r, names)
		return "Lift", a.Lift(name), m.lift(name)
	default:
		now := int64(r.IntN(60)) - 1
		if r.IntN(4) == 0 {
			now += 3600
		}
		var ids []int64
		for range r.IntN(8) {
			ids = append(ids, int64(r.IntN(int(m.last)+3)))
		}
		got, err := a.Purge(now, ids)
		gone, want := m.purge(now, ids)
		if !slices.Equal(got, gone) && err != api.ErrDead {
			t.Fatalf("Purge: got %v, want %v", got, gone)
		}
		return "Purge", err, want
	}
}

// Whole scripts, in which the disk may be full, and the archive is opened again.
func TestModel(t *testing.T) {
	for seed := range uint64(60) {
		r := rand.New(rand.NewPCG(17, seed))
		m := newModel(100 + r.IntN(400))
		d := disk.New(room)
		a := open(t, d, m.conf)
		for range 60 {
			what, got, wanted := step(t, r, a, m)
			want(t, what, got, wanted)
			holds(t, "script "+strconv.FormatUint(seed, 10)+", "+what, d, a, m)
			if r.IntN(10) == 0 {
				m.room = d.Used() + r.IntN(300)
				if r.IntN(2) == 0 {
					m.room = room
				}
				d.Limit(m.room)
			}
			if r.IntN(10) > 0 {
				continue
			}
			var err api.Errno
			a, err = archive.Open(d, m.conf)
			want(t, "Open", err, m.seal())
			if err != api.OK {
				m.room = room
				d.Limit(room)
				a = open(t, d, m.conf)
				m.seal()
			}
			holds(t, "opened", d, a, m)
		}
	}
}

// P17.10: whole scripts, over which the power fails again and again. What was answered is kept, and what is purged was over and not held.
func TestModelWithoutPower(t *testing.T) {
	failures := 0
	for seed := range uint64(80) {
		r := rand.New(rand.NewPCG(18, seed))
		m := newModel(100 + r.IntN(400))
		d := disk.New(room)
		a := open(t, d, m.conf)
		for range 40 {
			old := m.clone()
			d.Arm(r.IntN(14))
			what, got, wanted := step(t, r, a, m)
			if d.Down() != (got == api.ErrDead) || !d.Down() && got != wanted {
				t.Fatalf("script %d, %s: got %d, want %d", seed, what, got, wanted)
			}
			if d.Down() {
				failures++
				dead(t, what, a)
				d.Start([]int{r.IntN(200), r.IntN(200)})
				for d.Arm(r.IntN(4)); opensIt(d, nil) != api.OK; d.Arm(r.IntN(4)) {
					d.Start([]int{r.IntN(100)})
				}
				a = open(t, d, m.conf)
				m = between(t, what, d, a, old, m)
			}
			d.Arm(0)
			holds(t, "script "+strconv.FormatUint(seed, 10)+", "+what, d, a, m)
		}
	}
	if failures < 300 {
		t.Errorf("the power has failed %d times only", failures)
	}
}

// between is the state behind a failure: as it was, as it was to be, or something between.
func between(t *testing.T, what string, d *disk.Disk, a *archive.Archive, old, new *model) *model {
	t.Helper()
	all := []*model{old, new}
	rolled := old.clone()
	if n := len(old.segs); len(framed(old.segs[n-1]...)) >= old.conf.Size {
		rolled.segs = append(rolled.segs, nil)
	}
	rolled.seal()
	all = append(all, rolled)
	for n := range old.segs {
		some := old.clone()
		for i := range n + 1 {
			some.purgeAs(new, i)
		}
		all = append(all, some)
	}
	return either(t, what, d, a, all)
}

// purgeAs purges in one segment what the other model has purged there.
func (m *model) purgeAs(n *model, i int) {
	for id, p := range n.gone {
		if _, ok := m.live[id]; ok && n.at[id].Seg == i {
			m.purgeIn(i, p.At, func(other int64) bool { return other == id })
		}
	}
}

// drawn is one of those, by lot, the same in each run.
func drawn[T any](r *rand.Rand, from []T) T { return from[r.IntN(len(from))] }
