package seglog_test

import (
	"maps"
	"math/rand/v2"
	"slices"
	"strings"
	"testing"

	"scriptorium/api"
	"scriptorium/disk"
	"scriptorium/seglog"
)

// model is the chapter said over again in texts, of a disk that has no other files: what the log is held against. Of a power that fails it knows nothing.
type model struct {
	segs map[int][]string
	last int
	safe int // how many records of the last segment
	size int
	room int
}

func (m *model) used() int {
	n := 0
	for _, l := range m.segs {
		n += len(framed(l...))
	}
	return n
}

func (m *model) full() bool { return len(framed(m.segs[m.last]...)) >= m.size }

func (m *model) add(s string) (api.Place, api.Errno) {
	if m.used()+8+len(s) > m.room {
		return api.Place{}, api.ErrFull
	}
	if m.full() {
		m.roll()
	}
	m.segs[m.last] = append(m.segs[m.last], s)
	return api.Place{Seg: m.last, At: len(m.segs[m.last]) - 1}, api.OK
}

func (m *model) roll() {
	m.last++
	m.segs[m.last], m.safe = nil, 0
}

func (m *model) rewrite(seg int, l []string) api.Errno {
	if _, ok := m.segs[seg]; !ok {
		return api.ErrNone
	}
	if m.used()+len(framed(l...)) > m.room {
		return api.ErrFull
	}
	m.segs[seg] = l
	if seg == m.last {
		m.safe = len(l)
	}
	return api.OK
}

func (m *model) drop(seg int) api.Errno {
	if _, ok := m.segs[seg]; !ok {
		return api.ErrNone
	}
	if seg == m.last {
		return api.ErrRange
	}
	delete(m.segs, seg)
	return api.OK
}

func (m *model) clone() *model {
	out := *m
	out.segs = map[int][]string{}
	for seg, l := range m.segs {
		out.segs[seg] = slices.Clone(l)
	}
	return &out
}

func text(r *rand.Rand) string { return strings.Repeat(string(rune('a'+r.IntN(26))), r.IntN(20)) }

func list(r *rand.Rand) []string {
	l := make([]string, r.IntN(4))
	for i := range l {
		l[i] = text(r)
	}
	return l
}

// step does one thing that is drawn by lot to both, and answers both errors.
func step(t *testing.T, r *rand.Rand, d *disk.Disk, l *seglog.Log, m *model) (string, api.Errno, api.Errno) {
	seg := m.last + 1 - r.IntN(5)
	switch r.IntN(13) {
	case 0, 1, 2, 3, 4:
		s := text(r)
		at, err := l.Append([]byte(s))
		wantAt, want := m.add(s)
		if at != wantAt && err != api.ErrDead {
			t.Fatalf("Append: got %v, want %v", at, wantAt)
		}
		return "Append", err, want
	case 5, 6:
		m.safe = len(m.segs[m.last])
		return "Sync", l.Sync(), api.OK
	case 7:
		m.roll()
		return "Roll", l.Roll(), api.OK
	case 8, 9:
		to := list(r)
		return "Rewrite", l.Rewrite(seg, recs(to...)), m.rewrite(seg, to)
	case 10, 11:
		return "Drop", l.Drop(seg), m.drop(seg)
	default:
		m.room = r.IntN(300)
		d.Limit(m.room)
		return "Limit", api.OK, api.OK
	}
}

// same fails the test unless log and disk are as the model has them.
func same(t *testing.T, what string, d *disk.Disk, l *seglog.Log, m *model) {
	t.Helper()
	numbers := slices.Sorted(maps.Keys(m.segs))
	var pairs []string
	for _, seg := range numbers {
		pairs = append(pairs, seglog.File("x", seg), framed(m.segs[seg]...))
		if got := texts(l, seg); !slices.Equal(got, m.segs[seg]) {
			t.Fatalf("%s: Records(%d): got %q, want %q", what, seg, got, m.segs[seg])
		}
	}
	files(t, what, d, pairs...)
	if got := l.Segments(); !slices.Equal(got, numbers) || l.Full() != m.full() {
		t.Fatalf("%s: Segments: got %v, want %v; Full %v", what, got, numbers, l.Full())
	}
}

func TestModel(t *testing.T) {
	for seed := range uint64(300) {
		r := rand.New(rand.NewPCG(seed, 3))
		m := &model{map[int][]string{1: nil}, 1, 0, 1 + r.IntN(60), 400}
		d := disk.New(m.room)
		l := open(t, d, m.size)
		for range 200 {
			what, got, want := step(t, r, d, l, m)
			if got != want {
				t.Fatalf("script %d, %s: got %d, want %d", seed, what, got, want)
			}
			same(t, what, d, l, m)
			if t.Failed() {
				t.Fatalf("script %d", seed)
			}
			if r.IntN(20) == 0 {
				l = open(t, d, m.size)
			}
		}
	}
}

// between fails the test unless what is found behind a failure may be: of each segment what it had ahead of the change or behind it; of the last one a beginning of that, which has all that was safe.
func between(t *testing.T, what string, l *seglog.Log, old, new *model) {
	t.Helper()
	got := l.Segments()
	for _, seg := range got {
		_, was := old.segs[seg]
		_, is := new.segs[seg]
		now := texts(l, seg)
		switch {
		case !was && !is:
			t.Fatalf("%s: segment %d is found", what, seg)
		case slices.Equal(now, old.segs[seg]) || is && slices.Equal(now, new.segs[seg]):
		case seg < old.last || seg == old.last && !begins(now, old.segs[seg][:old.safe]):
			t.Fatalf("%s: Records(%d): got %q, between %q and %q, of which %d were safe", what, seg, now, old.segs[seg], new.segs[seg], old.safe)
		case !begins(old.segs[seg], now) && !begins(new.segs[seg], now):
			t.Fatalf("%s: Records(%d): got %q, no beginning of %q or %q", what, seg, now, old.segs[seg], new.segs[seg])
		}
	}
	for seg := range old.segs {
		if _, is := new.segs[seg]; is && !slices.Contains(got, seg) {
			t.Fatalf("%s: segment %d is gone", what, seg)
		}
	}
}

// P3.9: whole scripts, over which the power fails again and again.
func TestModelWithoutPower(t *testing.T) {
	failures := 0
	for seed := range uint64(400) {
		r := rand.New(rand.NewPCG(seed, 4))
		m := &model{map[int][]string{1: nil}, 1, 0, 1 + r.IntN(60), 10000}
		d := disk.New(m.room)
		l := open(t, d, m.size)
		for range 60 {
			old := m.clone()
			// The room is so great that no Limit matters: what a full disk does is held against the model above.
			d.Arm(r.IntN(12))
			what, got, want := step(t, r, d, l, m)
			d.Limit(10000)
			m.room = 10000
			if d.Down() != (got == api.ErrDead) || !d.Down() && got != want {
				t.Fatalf("script %d, %s: got %d, want %d", seed, what, got, want)
			}
			if !d.Down() {
				d.Arm(0)
				same(t, what, d, l, m)
				continue
			}
			failures++
			dead(t, what, l)
			d.Start([]int{r.IntN(60), r.IntN(60)})
			l = open(t, d, m.size)
			between(t, what, l, old, m)
			m.takes(l)
			same(t, what, d, l, m)
		}
	}
	if failures < 1000 {
		t.Errorf("the power has failed %d times only", failures)
	}
}

// takes makes the model what the log has: all of it is safe behind a start.
func (m *model) takes(l *seglog.Log) {
	m.segs = map[int][]string{}
	for _, seg := range l.Segments() {
		m.segs[seg], m.last = texts(l, seg), seg
	}
	m.safe = len(m.segs[m.last])
}
