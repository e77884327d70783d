package archive_test

import (
	"encoding/binary"
	"math"
	"math/rand/v2"
	"slices"
	"strconv"
	"strings"
	"testing"
	"unsafe"

	"scriptorium/api"
	"scriptorium/archive"
	"scriptorium/disk"
)

// P1

// Any numbers, any texts, any lists.
func TestAnyArguments(t *testing.T) {
	numbers := []int64{0, 1, 2, 4, 5, 10, -1, 1 << 32, api.MaxID, api.MaxID + 1, math.MaxInt64, math.MinInt64}
	long := strings.Repeat("x", 1<<20)
	texts := []string{"", "h", "a@b", "\x00", "\xff", long, "a@" + long, strings.Repeat("a@b,", 1000)}
	d, a, _ := many(t, 5)
	for _, n := range numbers {
		for _, id := range numbers {
			if l, err := a.Purge(n, []int64{id, id, 0}); len(l) > 1 || err != api.OK {
				t.Errorf("Purge: got %v, %d", l, err)
			}
		}
		a.Propose(n)
		a.Fetch(n)
		a.Prove(n)
		for _, s := range texts {
			a.Lift(s)
			if err := a.Hold(api.Hold{Name: s, Who: s}); err != api.ErrHold {
				t.Errorf("Hold of %s: got %d", short([]string{s}), err)
			}
			if id, err := a.Ingest(sent(s, n, texts...), []byte(s)); id != 0 || err != api.ErrEntry {
				t.Errorf("Ingest: got %d, %d", id, err)
			}
			refuses(t, "texts", d, api.Config{Size: 100, Classes: []api.Class{{Name: s, Keep: n}}, Rules: []api.Rule{{Domain: s + "!", Class: s}}}, api.ErrClass)
		}
	}
	if l, err := a.Purge(10, make([]int64, 1<<20)); len(l) != 0 || err != api.OK {
		t.Errorf("Purge of very many: got %v, %d", l, err)
	}
	if id, err := a.Ingest(sent("", 0, make([]string, 1<<20)...), nil); id != 0 || err != api.ErrEntry {
		t.Errorf("Ingest to very many: got %d, %d", id, err)
	}
	if len(a.Holds()) != 0 || len(a.Live()) != 1 || len(a.Ledger()) != 4 {
		t.Errorf("got %v, %v, %v", a.Holds(), a.Live(), a.Ledger())
	}
}

func TestAnyProofs(t *testing.T) {
	numbers := []int{0, 1, 2, 3, -1, 1 << 32, math.MaxInt, math.MinInt}
	for _, count := range numbers {
		for _, at := range numbers {
			for _, n := range []int{0, 1, 2, 64, 1000} {
				p := api.Proof{Seal: api.Seal{Count: count, Root: leafOf("r")}, At: at, Leaf: leafOf("l"), Way: make([][32]byte, n)}
				if archive.Proves(p) {
					t.Errorf("%d of %d, a way of %d is taken", at, count, n)
				}
			}
		}
	}
}

// sound fails the test unless Open and Audit answer of those files what fits together.
func sound(t *testing.T, files ...string) {
	t.Helper()
	d := disk.New(room)
	for i, b := range files {
		set(t, d, name(i+1), b)
	}
	was := contents(d)
	n, err := archive.Audit(d)
	if len(files) == 0 {
		if n != 0 || err != api.ErrArchive {
			t.Errorf("Audit of nothing: got %d, %d", n, err)
		}
	} else if n < 0 || n > len(files) || err != api.OK {
		t.Errorf("Audit of %s: got %d, %d", short(was), n, err)
	}
	if got := contents(d); !slices.Equal(got, was) {
		t.Errorf("Audit has changed %s to %s", short(was), short(got))
	}
	a, err := archive.Open(d, config(100))
	switch {
	case err == api.OK && (n == 0 || n == len(files)):
		if n, err := archive.Audit(d); n != 0 || err != api.OK {
			t.Errorf("Audit of %s, opened: got %d, %d", short(was), n, err)
		}
		a.Hold(api.Hold{Name: "more"})
		lives(t, a)
		open(t, d, config(100))
	case err != api.ErrTorn && err != api.ErrArchive || a != nil || n == 0:
		t.Errorf("Open of %s: got %v, %d; Audit %d", short(was), a != nil, err, n)
	}
}

// lives fails the test unless an archive's answers fit together.
func lives(t *testing.T, a *archive.Archive) {
	t.Helper()
	ids := a.Live()
	for _, p := range a.Ledger() {
		if _, err := a.Fetch(p.ID); err != api.ErrNone || slices.Contains(ids, p.ID) {
			t.Errorf("Fetch(%d), which is purged: got %d", p.ID, err)
		}
	}
	for _, id := range ids {
		if m, err := a.Fetch(id); m.ID != id || err != api.OK {
			t.Errorf("Fetch(%d): got %d, %d", id, m.ID, err)
		}
		if p, err := a.Prove(id); (err == api.OK) != archive.Proves(p) {
			t.Errorf("Prove(%d): got %v, %d", id, p, err)
		}
	}
	if !slices.IsSorted(ids) {
		t.Errorf("Live: got %v", ids)
	}
}

// What segments are put together from: records that fit one behind the other, and such as don't.
func pieces() []string {
	l := []string{"", "x", "\x01", held("h", ""), held("g", "a@b"), lifted("h"), lifted("g"), sealed(1, nil, ""), sealed(1, []string{msg(1)}, "")}
	for id := range int64(6) {
		l = append(l, msg(id), gone(id))
	}
	return l
}

// P1: any files. Now and then a segment is sealed as it should be.
func TestAnyFiles(t *testing.T) {
	r := rand.New(rand.NewPCG(17, 1))
	sound(t)
	for range 3000 {
		var segs [][]string
		for i := range 1 + r.IntN(3) {
			var recs []string
			if i > 0 && r.IntN(10) > 0 {
				recs = []string{due(1, segs)}
			}
			for range r.IntN(4) {
				recs = append(recs, drawn(r, pieces()))
			}
			segs = append(segs, recs)
			if len(recs) == 0 {
				break
			}
		}
		files := []string{}
		for _, recs := range segs {
			files = append(files, framed(recs...))
		}
		if n := len(files) - 1; r.IntN(3) == 0 {
			files[n] += drawn(r, []string{"x", "torn", "\x00\x00\x00\x00", framed("y")[:8]})
		}
		sound(t, files...)
	}
}

func FuzzAnyFiles(f *testing.F) {
	for _, segs := range wholes() {
		l := []string{"", "", ""}
		for i, recs := range segs[:min(3, len(segs))] {
			l[i] = framed(recs...)
		}
		f.Add(l[0], l[1], l[2], uint8(len(segs)))
	}
	f.Fuzz(func(t *testing.T, a, b, c string, n uint8) {
		sound(t, []string{a, b, c}[:n%4]...)
		// With lengths and check sums set right.
		sound(t, mend(a), mend(b))
		sound(t, framed(a, b, c))
		sound(t, framed(a, b), framed(sealed(1, []string{a, b}, ""), c))
	})
}

// mend is s taken as frames, each with its check sum set right.
func mend(s string) string {
	var recs []string
	for len(s) >= 8 {
		n := min(int(binary.LittleEndian.Uint32([]byte(s))%1000), len(s)-8)
		recs = append(recs, s[8:8+n])
		s = s[8+n:]
	}
	return framed(recs...)
}

func FuzzAnyCalls(f *testing.F) {
	f.Add("a@b", "c@d", "a@x.org", int64(5), "body", "h", "", int64(15), int64(1), int64(2))
	f.Add("", "c@y.org", "", int64(-1), "", "", "a@b", int64(-1), int64(0), int64(-1))
	f.Fuzz(func(t *testing.T, from, to, more string, at int64, body, hold, who string, now, x, y int64) {
		d := disk.New(room)
		a, m := open(t, d, config(100)), newModel(100)
		for _, e := range []api.Envelope{sent(from, at, to), sent(from, at, to, more), plain(now), plain(0)} {
			before := m.last
			id, err := a.Ingest(e, []byte(body))
			if err == api.ErrEntry {
				continue
			}
			if want := m.ingest(e, body); err != want || err == api.OK && id != before+1 {
				t.Fatalf("Ingest: got %d, %d, want %d, %d", id, err, before+1, want)
			}
		}
		want(t, "Hold", a.Hold(api.Hold{Name: hold, Who: who}), m.hold(hold, who))
		want(t, "Hold", a.Hold(api.Hold{Name: "h"}), m.hold("h", ""))
		want(t, "Lift", a.Lift(hold), m.lift(hold))
		want(t, "Lift", a.Lift(who), m.lift(who))
		a.Fetch(x)
		a.Prove(y)
		gone, err := a.Purge(now, []int64{x, y, 1, 3})
		wantGone, wantErr := m.purge(now, []int64{x, y, 1, 3})
		if !slices.Equal(gone, wantGone) || err != wantErr {
			t.Fatalf("Purge: got %v, %d, want %v, %d", gone, err, wantGone, wantErr)
		}
		holds(t, "any calls", d, a, m)
	})
}

// P2

// roomy is l with room behind its length, in which those stand.
func roomy[T any](l []T, behind ...T) []T { return slices.Clip(slices.Concat(l, behind))[:len(l)] }

// whole is all of l, up to the end of its room.
func whole[T any](l []T) []T { return l[:cap(l)] }

// fill writes x over all of l, and over what lies behind its length.
func fill[T any](l []T, x T) {
	for i := range whole(l) {
		whole(l)[i] = x
	}
}

// kept is memory, and what stands in it: as long as that is there, nothing else is laid there.
type kept struct {
	from, to uintptr
	what     any
}

func list[T any](l []T) kept {
	from := uintptr(unsafe.Pointer(unsafe.SliceData(l)))
	var x T
	return kept{from, from + uintptr(cap(l))*unsafe.Sizeof(x), l}
}

// text is a text's memory. One of one byte is one that the language keeps for all.
func text(s string) kept {
	if len(s) < 2 {
		return kept{}
	}
	from := uintptr(unsafe.Pointer(unsafe.StringData(s)))
	return kept{from, from + uintptr(len(s)), s}
}

func envelope(e api.Envelope) []kept {
	all := []kept{text(e.From), list(e.To)}
	for _, to := range e.To {
		all = append(all, text(to))
	}
	return all
}

// answers is the memory of all that an archive answers.
func answers(a *archive.Archive) []kept {
	all := []kept{list(a.Live()), list(a.Ledger()), list(a.Holds()), list(a.Propose(10))}
	for _, h := range a.Holds() {
		all = append(all, text(h.Name), text(h.Who))
	}
	for id := range int64(10) {
		m, _ := a.Fetch(id)
		all = append(all, list(m.Body), text(m.Class))
		all = append(all, envelope(m.Env)...)
		p, _ := a.Prove(id)
		all = append(all, list(p.Way))
	}
	return all
}

// apart fails the test, if two of those share memory.
func apart(t *testing.T, what string, all []kept) {
	t.Helper()
	all = slices.DeleteFunc(slices.Clone(all), func(k kept) bool { return k.from == k.to })
	slices.SortFunc(all, func(j, k kept) int { return int(j.from>>1) - int(k.from>>1) })
	for i := 1; i < len(all); i++ {
		if all[i].from < all[i-1].to {
			t.Errorf("%s: %v and %v share memory", what, all[i-1].what, all[i].what)
		}
	}
}

// own is s in memory of its own.
func own(s string) string { return string([]byte(s)) }

func TestNothingSharesMemory(t *testing.T) {
	d := disk.New(room)
	c := api.Config{Size: 150, Classes: []api.Class{{Name: own("all"), Keep: 10}, {Name: own("legal"), Keep: 10}}, Rules: []api.Rule{{Domain: own("x.org"), Class: own("legal")}}}
	given := []kept{list(c.Classes), list(c.Rules), text(c.Classes[0].Name), text(c.Classes[1].Name), text(c.Rules[0].Domain), text(c.Rules[0].Class)}
	a := open(t, d, c)
	for i := range 9 {
		e := sent(own("a@b"), 0, own("c@x.org"), own("e@f"))
		body := roomy([]byte("body "+strconv.Itoa(i)), []byte("behind")...)
		ingests(t, a, e, "", int64(2*i+1))
		if _, err := a.Ingest(e, body); err != api.OK {
			t.Fatalf("Ingest: got %d", err)
		}
		given = append(append(given, list(body)), envelope(e)...)
	}
	h := api.Hold{Name: own("case-1"), Who: own("q@q.org")}
	want(t, "Hold", a.Hold(h), api.OK)
	ids := []int64{2, 3, 4}
	given = append(given, text(h.Name), text(h.Who), list(ids))
	gone, _ := a.Purge(10, ids)
	apart(t, "calls", slices.Concat(given, []kept{list(gone)}, answers(a), answers(a)))
	b := open(t, d, c)
	apart(t, "two archives", slices.Concat(given, answers(a), answers(b), answers(b)))
}

// Arguments stay as they are, and what lies behind their lengths is not read, though it would fit.
func TestArgumentsAreLeft(t *testing.T) {
	d := disk.New(room)
	c := config(150)
	c.Classes = roomy(c.Classes[:1], api.Class{Name: "legal", Keep: 1})
	c.Rules = roomy([]api.Rule{}, api.Rule{Domain: "d", Class: "legal"})
	classes, rules := slices.Clone(whole(c.Classes)), slices.Clone(whole(c.Rules))
	a := open(t, d, c)
	e := plain(0)
	e.To = roomy(e.To, "e@f", "none")
	body := roomy([]byte("body"), []byte("behind")...)
	to, b := slices.Clone(whole(e.To)), slices.Clone(whole(body))
	for i := range int64(5) {
		if id, err := a.Ingest(e, body); id != i+1 || err != api.OK {
			t.Fatalf("Ingest: got %d, %d", id, err)
		}
		if m, err := a.Fetch(i + 1); !alike(m, api.Message{ID: i + 1, Class: "all", Env: plain(0), Body: []byte("body")}) || err != api.OK {
			t.Errorf("Fetch: got %v, %d", m, err)
		}
	}
	ids := roomy([]int64{2, 1}, 3, 4, 5)
	if l, err := a.Purge(10, ids); !slices.Equal(l, []int64{1, 2}) || err != api.OK {
		t.Errorf("Purge: got %v, %d", l, err)
	}
	p, _ := a.Prove(1)
	p.Way = roomy(p.Way[:1], p.Way[1:]...)
	way := slices.Clone(whole(p.Way))
	if archive.Proves(p) && len(way) > 1 {
		t.Errorf("what lies behind the way is read")
	}
	if !slices.Equal(whole(c.Classes), classes) || !slices.Equal(whole(c.Rules), rules) || !slices.Equal(whole(e.To), to) || !slices.Equal(whole(body), b) || !slices.Equal(whole(ids), []int64{2, 1, 3, 4, 5}) || !slices.Equal(whole(p.Way), way) {
		t.Errorf("changed: %v, %v, %q, %q, %v", whole(c.Classes), whole(c.Rules), whole(e.To), whole(body), whole(ids))
	}
}

// What becomes of arguments and of answers behind a call is nothing to the archive.
func TestWhatBecomesOfArgumentsAndAnswers(t *testing.T) {
	d := disk.New(room)
	c, m := config(150), newModel(150)
	a := open(t, d, c)
	fill(c.Classes, api.Class{Name: "!", Keep: 1})
	fill(c.Rules, api.Rule{Domain: "d", Class: "!"})
	for i := range 9 {
		e := sent("a@b", 0, "c@x.org", "e@f")
		body := roomy([]byte("body "+strconv.Itoa(i)), []byte("behind")...)
		m.ingest(sent("a@b", 0, "c@x.org", "e@f"), string(body))
		if _, err := a.Ingest(e, body); err != api.OK {
			t.Fatalf("Ingest: got %d", err)
		}
		fill(e.To, "!")
		fill(body, '!')
	}
	want(t, "Hold", a.Hold(api.Hold{Name: "h", Who: "q@q"}), m.hold("h", "q@q"))
	gone, _ := a.Purge(3600, []int64{2, 3, 9})
	m.purge(3600, []int64{2, 3, 9})
	fill(gone, -1)
	for id := range int64(10) {
		got, _ := a.Fetch(id)
		fill(got.Body, '!')
		fill(got.Env.To, "!")
		p, _ := a.Prove(id)
		fill(p.Way, [32]byte{})
	}
	fill(a.Live(), -1)
	fill(a.Propose(3600), -1)
	fill(a.Holds(), api.Hold{})
	fill(a.Ledger(), api.Purged{})
	holds(t, "behind all", d, a, m)
	ingests(t, a, plain(0), "more", 10)
	m.ingest(plain(0), "more")
	holds(t, "with one more", d, a, m)
}

// P3

func TestNilIsNothing(t *testing.T) {
	d := disk.New(room)
	c := config(150)
	c.Rules = nil
	open(t, d, c)
	c.Rules = []api.Rule{}
	a := open(t, d, c)
	for i, body := range [][]byte{nil, {}, roomy([]byte{}, 'x')} {
		id, err := a.Ingest(plain(0), body)
		if m, _ := a.Fetch(id); id != int64(i+1) || err != api.OK || len(m.Body) != 0 {
			t.Errorf("Ingest: got %d, %d, %q", id, err, m.Body)
		}
	}
	for _, to := range [][]string{nil, {}, roomy([]string{}, "c@d")} {
		if id, err := a.Ingest(sent("a@b", 0, to...), nil); id != 0 || err != api.ErrEntry {
			t.Errorf("Ingest to nobody: got %d, %d", id, err)
		}
	}
	for _, ids := range [][]int64{nil, {}, roomy([]int64{}, 1, 2)} {
		if l, err := a.Purge(10, ids); len(l) != 0 || err != api.OK {
			t.Errorf("Purge: got %v, %d", l, err)
		}
	}
	if one := leafOf("x"); !archive.Proves(api.Proof{Seal: api.Seal{Count: 1, Root: one}, Leaf: one, Way: [][32]byte{}}) {
		t.Errorf("an empty way isn't taken")
	}
	for _, classes := range [][]api.Class{nil, {}, roomy([]api.Class{}, api.Class{Name: "all", Keep: 1})} {
		c.Classes = classes
		refuses(t, "no classes", d, c, api.ErrClass)
	}
}

// What a call answers hangs on its arguments and on its archive alone: two that are told the same answer the same, however often they are asked between, and by whom.
func TestAnswersHangOnTheArchiveAlone(t *testing.T) {
	d, a, m := many(t, 12)
	e, b, n := many(t, 12)
	for i := range int64(12) {
		answers(b)
		open(t, e, config(200))
		if l, err := a.Purge(10, []int64{i * 5 % 12}); err != api.OK || len(l) > 1 {
			t.Errorf("Purge: got %v, %d", l, err)
		}
		b.Purge(10, []int64{i * 5 % 12})
		m.purge(10, []int64{i * 5 % 12})
		n.purge(10, []int64{i * 5 % 12})
		holds(t, "one", d, a, m)
		holds(t, "the other", e, b, n)
		if !slices.Equal(contents(d), contents(e)) {
			t.Errorf("two disks differ: %s, %s", short(contents(d)), short(contents(e)))
		}
	}
}

// P1: also where somebody changes the files below an open archive, or opens another one there, each call ends.
func TestFilesThatAreChangedBelow(t *testing.T) {
	for _, do := range []func(d *disk.Disk){
		func(d *disk.Disk) { d.Delete(name(1)) },
		func(d *disk.Disk) {
			for _, name := range d.Names() {
				d.Delete(name)
			}
		},
		func(d *disk.Disk) {
			for _, name := range d.Names() {
				d.Create(name)
			}
		},
		func(d *disk.Disk) { d.Rename(name(2), name(1)) },
		func(d *disk.Disk) { d.Append(name(2), []byte("torn")) },
		func(d *disk.Disk) {
			if a, err := archive.Open(d, config(100)); err == api.OK {
				a.Purge(10, []int64{1, 4, 5})
				a.Ingest(plain(0), []byte("by another"))
			}
		},
	} {
		for _, full := range []bool{false, true} {
			d, a, _ := many(t, 7)
			do(d)
			if full {
				d.Limit(0)
			}
			for id := range int64(9) {
				m, err := a.Fetch(id)
				if (err == api.OK) != (id > 0 && id < 8) || err == api.OK && string(m.Body) != "message "+strconv.FormatInt(id-1, 10) {
					t.Errorf("Fetch(%d): got %v, %d", id, m, err)
				}
			}
			a.Purge(10, []int64{1, 5})
			a.Ingest(plain(0), make([]byte, 300))
			a.Hold(api.Hold{Name: "h"})
			a.Lift("h")
			a.Purge(10, []int64{2, 3, 4, 6, 7})
			a.Ingest(plain(0), nil)
			answers(a)
			archive.Audit(d)
			archive.Open(d, config(100))
		}
	}
}
