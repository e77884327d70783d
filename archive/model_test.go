package archive_test

import (
	"maps"
	"math"
	"slices"
	"strconv"
	"strings"
	"testing"

	"scriptorium/api"
	"scriptorium/archive"
	"scriptorium/disk"
	"scriptorium/hold"
	"scriptorium/retain"
)

// model is the chapter said over again in texts, of a disk that has no other files: what an archive is held against. Of a power that fails it knows nothing.
type model struct {
	conf  api.Config
	room  int
	segs  [][]string // of each segment from 1 on its records
	at    map[int64]api.Place
	live  map[int64]api.Message
	gone  map[int64]api.Purged
	holds []api.Hold
	last  int64
}

func newModel(size int) *model {
	return &model{config(size), room, [][]string{nil}, map[int64]api.Place{}, map[int64]api.Message{}, map[int64]api.Purged{}, nil, 0}
}

// modelOf is what those segments tell; of their records it knows those that the tests lay by hand.
func modelOf(size int, segs [][]string) *model {
	m := newModel(size)
	m.segs = slices.Clone(segs)
	for i, recs := range segs {
		for at, rec := range recs {
			m.tell(api.Place{Seg: i, At: at}, rec)
		}
	}
	return m
}

// parts are those of which put makes s.
func parts(s string) []string {
	var l []string
	for s != "" {
		digits, rest, _ := strings.Cut(s, ":")
		n, _ := strconv.Atoi(digits)
		l = append(l, rest[:n])
		s = rest[n+1:]
	}
	return l
}

func number(s string) int64 {
	n, _ := strconv.ParseInt(s, 10, 64)
	return n
}

// tell takes up what a record tells.
func (m *model) tell(at api.Place, rec string) {
	switch rec[0] {
	case 1:
		p := parts(rec[1:])
		n := len(p) - 1
		msg := api.Message{ID: number(p[0]), Class: p[1], Env: sent(p[2], number(p[3]), p[5:n]...), Body: []byte(p[n])}
		m.live[msg.ID], m.at[msg.ID], m.last = msg, at, msg.ID
	case 2:
		var id, when int64
		for i := range 8 {
			id, when = id<<8|int64(rec[1+i]), when<<8|int64(rec[9+i])
		}
		m.gone[id], m.at[id], m.last = api.Purged{ID: id, Leaf: leafOf(rec), At: when}, at, id
	case 4:
		p := parts(rec[1:])
		m.holds = append(m.holds, api.Hold{Name: p[0], Who: p[1]})
	case 5:
		m.holds, _ = hold.Lift(m.holds, parts(rec[1:])[0])
	}
}

func (m *model) clone() *model {
	n := *m
	n.segs = nil
	for _, recs := range m.segs {
		n.segs = append(n.segs, slices.Clone(recs))
	}
	n.at, n.live, n.gone, n.holds = maps.Clone(m.at), maps.Clone(m.live), maps.Clone(m.gone), slices.Clone(m.holds)
	return &n
}

func (m *model) used() int {
	n := 0
	for _, recs := range m.segs {
		n += len(framed(recs...))
	}
	return n
}

func (m *model) fits(b string) bool { return m.used()+len(b) <= m.room }

func (m *model) lay(rec string) api.Errno {
	if !m.fits(framed(rec)) {
		return api.ErrFull
	}
	n := len(m.segs) - 1
	m.segs[n] = append(m.segs[n], rec)
	m.tell(api.Place{Seg: n, At: len(m.segs[n]) - 1}, rec)
	return api.OK
}

// write is what the chapter says of writing a record.
func (m *model) write(rec string) api.Errno {
	if n := len(m.segs) - 1; len(framed(m.segs[n]...)) >= m.conf.Size {
		m.segs = append(m.segs, nil)
	}
	if err := m.seal(); err != api.OK {
		return err
	}
	return m.lay(rec)
}

// seal lays the seal of the segment ahead, if it is due.
func (m *model) seal() api.Errno {
	n := len(m.segs) - 1
	if n == 0 || len(m.segs[n]) > 0 {
		return api.OK
	}
	return m.lay(due(1, m.segs[:n]))
}

func (m *model) ingest(e api.Envelope, body string) api.Errno {
	return m.write(told(api.Message{ID: m.last + 1, Class: retain.Choose(m.conf.Classes, m.conf.Rules, e), Env: e, Body: []byte(body)}))
}

func (m *model) hold(name, who string) api.Errno {
	if _, err := hold.Place(m.holds, api.Hold{Name: name, Who: who}); err != api.OK {
		return err
	}
	return m.write(held(name, who))
}

func (m *model) lift(name string) api.Errno {
	if _, err := hold.Lift(m.holds, name); err != api.OK {
		return err
	}
	return m.write(lifted(name))
}

func (m *model) numbers() []int64 { return slices.Sorted(maps.Keys(m.live)) }

func (m *model) propose(now int64) []int64 {
	var ids []int64
	for _, id := range m.numbers() {
		msg := m.live[id]
		if retain.Over(m.conf.Classes, msg.Class, msg.Env.At, now) && !hold.Covers(m.holds, msg.Env) {
			ids = append(ids, id)
		}
	}
	return ids
}

func (m *model) purge(now int64, ids []int64) ([]int64, api.Errno) {
	may := m.propose(now)
	var all []int64
	for i := range m.segs {
		gone, err := m.purgeIn(i, now, func(id int64) bool { return slices.Contains(ids, id) && slices.Contains(may, id) })
		if err != api.OK {
			return all, err
		}
		all = append(all, gone...)
	}
	return all, api.OK
}

// purgeIn purges in one segment those that go.
func (m *model) purgeIn(i int, now int64, goes func(int64) bool) ([]int64, api.Errno) {
	recs := slices.Clone(m.segs[i])
	var gone []int64
	for _, id := range m.numbers() {
		if at := m.at[id]; at.Seg == i && goes(id) {
			recs[at.At] = left(id, now, leafOf(recs[at.At]))
			gone = append(gone, id)
		}
	}
	if len(gone) > 0 && !m.fits(framed(recs...)) {
		return nil, api.ErrFull
	}
	m.segs[i] = recs
	for _, id := range gone {
		delete(m.live, id)
		m.gone[id] = api.Purged{ID: id, Leaf: leafOf(recs[m.at[id].At]), At: now}
	}
	return gone, api.OK
}

func (m *model) prove(id int64) (api.Proof, api.Errno) {
	at, ok := m.at[id]
	if !ok || at.Seg+1 >= len(m.segs) || len(m.segs[at.Seg+1]) == 0 {
		return api.Proof{}, api.ErrNone
	}
	recs, seal := m.segs[at.Seg], m.segs[at.Seg+1][0]
	l := leaves(recs)
	s := api.Seal{Seg: at.Seg + 1, Count: len(recs), Root: rootOf(l), Prev: [32]byte([]byte(seal[41:]))}
	return api.Proof{Seal: s, At: at.At, Leaf: l[at.At], Way: wayOf(l, at.At)}, api.OK
}

// differs tells in what an archive and its disk aren't as the model has them: nothing, if in nothing.
func differs(d *disk.Disk, a *archive.Archive, m *model) string {
	if got := contents(d); !slices.Equal(got, filesOf(m.segs)) {
		return "files " + short(got) + ", want " + short(filesOf(m.segs))
	}
	if !slices.Equal(a.Live(), m.numbers()) {
		return "Live"
	}
	if !slices.Equal(a.Holds(), m.holds) {
		return "Holds"
	}
	var ledger []api.Purged
	for _, id := range slices.Sorted(maps.Keys(m.gone)) {
		ledger = append(ledger, m.gone[id])
	}
	if !slices.Equal(a.Ledger(), ledger) {
		return "Ledger"
	}
	for _, id := range append(slices.Collect(maps.Keys(m.at)), 0, -1, m.last+1) {
		got, err := a.Fetch(id)
		msg, ok := m.live[id]
		if !alike(got, msg) || (err == api.OK) != ok || !ok && err != api.ErrNone {
			return "Fetch of " + strconv.FormatInt(id, 10)
		}
		p, err := a.Prove(id)
		if want, wantErr := m.prove(id); !same(p, want) || err != wantErr {
			return "Prove of " + strconv.FormatInt(id, 10)
		}
	}
	for _, now := range []int64{-1, 0, 1, 9, 10, 11, 15, 3600, math.MaxInt64} {
		if !slices.Equal(a.Propose(now), m.propose(now)) {
			return "Propose at " + strconv.FormatInt(now, 10)
		}
	}
	if n, err := archive.Audit(d); n != 0 || err != api.OK {
		return "Audit: " + strconv.Itoa(n) + ", " + strconv.Itoa(int(err))
	}
	return ""
}

// holds fails the test unless an archive and its disk are as the model has them.
func holds(t *testing.T, what string, d *disk.Disk, a *archive.Archive, m *model) {
	t.Helper()
	if s := differs(d, a, m); s != "" {
		t.Fatalf("%s: %s", what, s)
	}
}
