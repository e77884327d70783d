package archive_test

import (
	"crypto/sha256"
	"encoding/binary"
	"hash/crc32"
	"math"
	"slices"
	"strconv"
	"strings"
	"testing"

	"scriptorium/api"
	"scriptorium/archive"
	"scriptorium/disk"
)

// room is how many bytes a disk of these tests has place for, unless one says otherwise.
const room = 100_000

// config is how most archives of these tests are kept.
func config(size int) api.Config {
	return api.Config{
		Size:    size,
		Classes: []api.Class{{Name: "all", Keep: 10}, {Name: "legal", Keep: 3600}, {Name: "short", Keep: 1}},
		Rules:   []api.Rule{{Domain: "x.org", Class: "legal"}, {Domain: "y.org", Class: "short"}, {Domain: "z.org", Class: "all"}},
	}
}

func sent(from string, at int64, to ...string) api.Envelope {
	return api.Envelope{From: from, To: to, At: at}
}

// plain is an envelope of the first class.
func plain(at int64) api.Envelope { return sent("a@b", at, "c@d") }

// put is what layer 15 says of its Put, over again.
func put(l ...string) string {
	var b strings.Builder
	for _, s := range l {
		b.WriteString(strconv.Itoa(len(s)) + ":" + s + ",")
	}
	return b.String()
}

// framed is those records as a file has them, by the library's check sums.
func framed(recs ...string) string {
	var out []byte
	for _, s := range recs {
		out = binary.LittleEndian.AppendUint32(out, uint32(len(s)))
		out = binary.LittleEndian.AppendUint32(out, crc32.ChecksumIEEE([]byte(s)))
		out = append(out, s...)
	}
	return string(out)
}

// told is a message's record, by hand, as those below are the other kinds'.
func told(m api.Message) string {
	l := []string{strconv.FormatInt(m.ID, 10), m.Class, m.Env.From, strconv.FormatInt(m.Env.At, 10), strconv.Itoa(len(m.Env.To))}
	return "\x01" + put(append(append(l, m.Env.To...), string(m.Body))...)
}

func left(id, at int64, leaf [32]byte) string {
	b := binary.BigEndian.AppendUint64([]byte{2}, uint64(id))
	b = binary.BigEndian.AppendUint64(b, uint64(at))
	return string(append(b, leaf[:]...))
}

func sealing(num, count int, root, prev [32]byte) string {
	b := binary.BigEndian.AppendUint32([]byte{3}, uint32(num))
	b = binary.BigEndian.AppendUint32(b, uint32(count))
	return string(append(append(b, root[:]...), prev[:]...))
}

func held(name, who string) string { return "\x04" + put(name, who) }

func lifted(name string) string { return "\x05" + put(name) }

// leafOf is a record's leaf, rootOf that of a tree of leaves, wayOf the sums beside the way to one of them: by the library's sums.
func leafOf(rec string) [32]byte {
	if len(rec) == 49 && rec[0] == 2 {
		return [32]byte([]byte(rec[17:]))
	}
	return sha256.Sum256([]byte("\x00" + rec))
}

func rootOf(l [][32]byte) [32]byte {
	switch len(l) {
	case 0:
		return sha256.Sum256(nil)
	case 1:
		return l[0]
	}
	k := half(len(l))
	a, b := rootOf(l[:k]), rootOf(l[k:])
	return sha256.Sum256(slices.Concat([]byte{1}, a[:], b[:]))
}

func wayOf(l [][32]byte, i int) [][32]byte {
	if len(l) == 1 {
		return nil
	}
	k := half(len(l))
	if i < k {
		return append(wayOf(l[:k], i), rootOf(l[k:]))
	}
	return append(wayOf(l[k:], i-k), rootOf(l[:k]))
}

// half is the greatest power of 2 below n.
func half(n int) int {
	k := 1
	for 2*k < n {
		k *= 2
	}
	return k
}

func leaves(recs []string) [][32]byte {
	var l [][32]byte
	for _, rec := range recs {
		l = append(l, leafOf(rec))
	}
	return l
}

// sealed is the seal of a segment with those records, where ahead is the seal that stands in it, or nothing.
func sealed(num int, recs []string, ahead string) string {
	prev := [32]byte{}
	if ahead != "" {
		prev = sha256.Sum256([]byte(ahead[1:]))
	}
	return sealing(num, len(recs), rootOf(leaves(recs)), prev)
}

// due is the seal with which the segment behind those begins: the first one is that of this number.
func due(first int, segs [][]string) string {
	n := len(segs) - 1
	ahead := ""
	if n > 0 {
		ahead = segs[n][0]
	}
	return sealed(first+n, segs[n], ahead)
}

// chained is those segments, each but the first with its seal in front.
func chained(segs ...[]string) [][]string {
	out := [][]string{segs[0]}
	for _, recs := range segs[1:] {
		out = append(out, append([]string{due(1, out)}, recs...))
	}
	return out
}

// name is that of a segment's file.
func name(num int) string {
	return "arch.0000" + string([]byte{'0' + byte(num/10), '0' + byte(num%10)})
}

// set lays a file with those bytes instead of what it had, all safe.
func set(t *testing.T, d *disk.Disk, name, b string) {
	t.Helper()
	if d.Create(name) != api.OK || d.Append(name, []byte(b)) != api.OK || d.Sync(name) != api.OK {
		t.Fatalf("no file %q", name)
	}
}

// lay is a disk with those segments, from the first one on, all safe.
func lay(t *testing.T, segs ...[]string) *disk.Disk {
	t.Helper()
	d := disk.New(room)
	for i, recs := range segs {
		set(t, d, name(i+1), framed(recs...))
	}
	return d
}

// contents is all that a disk has: each file's name, and its bytes.
func contents(d *disk.Disk) []string {
	var all []string
	for _, name := range d.Names() {
		b, _ := d.Read(name)
		all = append(all, name, string(b))
	}
	return all
}

// filesOf is what a disk has that has those segments, and nothing else.
func filesOf(segs [][]string) []string {
	var all []string
	for i, recs := range segs {
		all = append(all, name(i+1), framed(recs...))
	}
	return all
}

// short is a list of texts as a test tells it.
func short(l []string) string {
	s := strings.Join(l, " | ")
	if len(s) > 300 {
		s = s[:200] + " .. " + s[len(s)-50:]
	}
	return strconv.Quote(s)
}

// fail lets the power fail in a change that does nothing else, and that no archive sees.
func fail(t *testing.T, d *disk.Disk) {
	t.Helper()
	d.Arm(1)
	if err := d.Create("q"); err != api.ErrDead {
		t.Fatalf("Create in which the power fails: got %d", err)
	}
}

// open is the archive on that disk.
func open(t *testing.T, d *disk.Disk, c api.Config) *archive.Archive {
	t.Helper()
	a, err := archive.Open(d, c)
	if err != api.OK || a == nil {
		t.Fatalf("Open: got %v, %d, of %s", a != nil, err, short(contents(d)))
	}
	return a
}

// refuses fails the test unless Open answers that error, and no archive.
func refuses(t *testing.T, what string, d *disk.Disk, c api.Config, want api.Errno) {
	t.Helper()
	if a, err := archive.Open(d, c); err != want || a != nil {
		t.Errorf("%s: Open: got %v, %d, want %d", what, a != nil, err, want)
	}
}

// want fails the test unless that is the error.
func want(t *testing.T, what string, got, want api.Errno) {
	t.Helper()
	if got != want {
		t.Errorf("%s: got %d, want %d", what, got, want)
	}
}

// ingests fails the test unless that message gets that number.
func ingests(t *testing.T, a *archive.Archive, e api.Envelope, body string, want int64) {
	t.Helper()
	if id, err := a.Ingest(e, []byte(body)); id != want || err != api.OK {
		t.Fatalf("Ingest: got %d, %d, want %d", id, err, want)
	}
}

// dead fails the test unless all calls answer ErrDead, or that nothing is there: what may not be is asked like what may.
func dead(t *testing.T, what string, a *archive.Archive) {
	t.Helper()
	for _, e := range []api.Envelope{plain(1), {}} {
		if id, err := a.Ingest(e, []byte("x")); id != 0 || err != api.ErrDead {
			t.Errorf("%s: Ingest: got %d, %d", what, id, err)
		}
	}
	for _, id := range []int64{0, 1, 2, -1} {
		if m, err := a.Fetch(id); !alike(m, api.Message{}) || err != api.ErrDead {
			t.Errorf("%s: Fetch: got %v, %d", what, m, err)
		}
		if p, err := a.Prove(id); !same(p, api.Proof{}) || err != api.ErrDead {
			t.Errorf("%s: Prove: got %v, %d", what, p, err)
		}
	}
	want(t, what+": Hold", a.Hold(api.Hold{Name: "new"}), api.ErrDead)
	want(t, what+": Hold of none", a.Hold(api.Hold{}), api.ErrDead)
	want(t, what+": Lift", a.Lift("h"), api.ErrDead)
	want(t, what+": Lift of none", a.Lift(""), api.ErrDead)
	for _, now := range []int64{-1, 0, math.MaxInt64} {
		if l, err := a.Purge(now, []int64{1, 2, 3}); len(l) != 0 || err != api.ErrDead {
			t.Errorf("%s: Purge: got %v, %d", what, l, err)
		}
		if l := a.Propose(now); len(l) != 0 {
			t.Errorf("%s: Propose: got %v", what, l)
		}
	}
	if len(a.Live())+len(a.Holds())+len(a.Ledger()) != 0 {
		t.Errorf("%s: got %v, %v, %v", what, a.Live(), a.Holds(), a.Ledger())
	}
}

// alike is whether two messages are the same.
func alike(m, n api.Message) bool {
	return m.ID == n.ID && m.Class == n.Class && m.Env.From == n.Env.From && m.Env.At == n.Env.At && slices.Equal(m.Env.To, n.Env.To) && string(m.Body) == string(n.Body)
}

// same is whether two proofs are.
func same(p, q api.Proof) bool {
	return p.Seal == q.Seal && p.At == q.At && p.Leaf == q.Leaf && slices.Equal(p.Way, q.Way)
}

// The chapter's example.
func TestExample(t *testing.T) {
	d := disk.New(room)
	a := open(t, d, config(150))
	ingests(t, a, plain(5), "a message", 1)
	m := api.Message{ID: 1, Class: "all", Env: plain(5), Body: []byte("a message")}
	if l, err := a.Purge(15, a.Propose(15)); !slices.Equal(l, []int64{1}) || err != api.OK {
		t.Errorf("Purge: got %v, %d", l, err)
	}
	if got, err := a.Fetch(1); err != api.ErrNone || !alike(got, api.Message{}) {
		t.Errorf("Fetch: got %v, %d", got, err)
	}
	if l := a.Ledger(); !slices.Equal(l, []api.Purged{{ID: 1, Leaf: leafOf(told(m)), At: 15}}) {
		t.Errorf("Ledger: got %v", l)
	}
	if n, err := archive.Audit(d); n != 0 || err != api.OK {
		t.Errorf("Audit: got %d, %d", n, err)
	}
}

// P17.1

// wholes are disks of which an archive may be opened, as segments, and what it has then.
func wholes() [][][]string {
	first := told(api.Message{ID: 3, Class: "all", Env: plain(5), Body: []byte("first")})
	second := told(api.Message{ID: 9, Class: "gone", Env: sent("", 0, "e@f", "a@b"), Body: nil})
	gone := left(4, 7, leafOf("whatever"))
	return [][][]string{
		{{}},
		{{first}},
		{{held("h", ""), first, gone, second, lifted("h"), held("h", "a@b")}},
		chained([]string{first}, []string{}),
		chained([]string{first, gone}, []string{second}),
		chained([]string{held("h", "a@b")}, []string{lifted("h"), held("h", "")}, nil, []string{first}, nil),
		chained([]string{gone}, []string{held("h", "a@b"), second}, []string{lifted("h")}),
	}
}

func TestOpenNothing(t *testing.T) {
	d := disk.New(room)
	holds(t, "nothing", d, open(t, d, config(100)), newModel(100))
	if got := contents(d); !slices.Equal(got, []string{"arch.000001", ""}) {
		t.Errorf("got %s", short(got))
	}
	holds(t, "nothing again", d, open(t, d, config(100)), newModel(100))
}

func TestOpenWhole(t *testing.T) {
	for _, segs := range wholes() {
		d := lay(t, segs...)
		for range 2 {
			a := open(t, d, config(100))
			holds(t, short(filesOf(segs)), d, a, modelOf(100, segs))
		}
	}
}

// Open of a log that begins later: its first segment is the one that has no seal.
func TestOpenOfALogThatBeginsLater(t *testing.T) {
	d := disk.New(room)
	long := strings.Repeat("x", 100)
	rec := func(id int64) string {
		return told(api.Message{ID: id, Class: "all", Env: plain(5), Body: []byte(long)})
	}
	set(t, d, "arch.000123", framed(rec(1)))
	segs := [][]string{{rec(1)}}
	files := []string{"arch.000123", framed(rec(1))}
	a := open(t, d, config(100))
	for i := range int64(4) {
		ingests(t, a, plain(5), long, i+2)
		recs := []string{due(123, segs), rec(i + 2)}
		segs = append(segs, recs)
		files = append(files, "arch.00012"+strconv.FormatInt(i+4, 10), framed(recs...))
		if got := contents(d); !slices.Equal(got, files) {
			t.Errorf("got %s, want %s", short(got), short(files))
		}
		if p, err := a.Prove(i + 1); err != api.OK || p.Seal.Seg != int(i+123) || !archive.Proves(p) {
			t.Errorf("Prove: got %v, %d", p, err)
		}
		open(t, d, config(100))
	}
	audits(t, "begun later", d, 0)
	d.Delete("arch.000125")
	audits(t, "begun later, one lacking", d, 126)
	refuses(t, "begun later, one lacking", d, config(100), api.ErrArchive)
}

func TestOpenRefusesConfigs(t *testing.T) {
	type change func(c *api.Config)
	for what, do := range map[string]change{
		"no class":            func(c *api.Config) { c.Classes = nil },
		"two of one name":     func(c *api.Config) { c.Classes[1].Name = "all" },
		"no seconds":          func(c *api.Config) { c.Classes[2].Keep = 0 },
		"a name of no letter": func(c *api.Config) { c.Classes[2].Name = "" },
		"101 rules":           func(c *api.Config) { c.Rules = slices.Repeat(c.Rules[:1], 101) },
		"no such class":       func(c *api.Config) { c.Rules[0].Class = "none" },
		"a large letter":      func(c *api.Config) { c.Rules[0].Domain = "X.org" },
	} {
		for _, size := range []int{100, 99, -1} {
			c := config(size)
			do(&c)
			d := lay(t, []string{held("h", "")})
			set(t, d, "arch.000001.new", "x")
			was := contents(d)
			refuses(t, what, d, c, api.ErrClass)
			refuses(t, what, nil, c, api.ErrClass)
			if got := contents(d); !slices.Equal(got, was) {
				t.Errorf("%s: got %s", what, short(got))
			}
		}
	}
}

func TestOpenSizes(t *testing.T) {
	for _, size := range []int{99, 98, 1, 0, -1, math.MinInt} {
		d := lay(t, []string{held("h", "")})
		set(t, d, "arch.000001.new", "x")
		was := contents(d)
		refuses(t, "a size", d, config(size), api.ErrRange)
		refuses(t, "a size", nil, config(size), api.ErrRange)
		if got := contents(d); !slices.Equal(got, was) {
			t.Errorf("size %d: got %s", size, short(got))
		}
	}
	for _, size := range []int{100, 101, 1000, math.MaxInt} {
		open(t, disk.New(0), config(size))
	}
}

func TestOpenRefusesDisks(t *testing.T) {
	refuses(t, "a nil disk", nil, config(100), api.ErrDead)
	refuses(t, "one that nobody made", new(disk.Disk), config(100), api.ErrDead)
	d := lay(t, []string{held("h", "")})
	fail(t, d)
	refuses(t, "one that is down", d, config(100), api.ErrDead)
	d.Start(nil)
	open(t, d, config(100))
}

// seglog.Open's errors stand ahead of ErrArchive.
func TestOpenRefusesFiles(t *testing.T) {
	segs := chained([]string{held("h", "")}, nil, []string{"none"})
	d := lay(t, segs...)
	set(t, d, name(2), framed(segs[1]...)+"torn")
	refuses(t, "a torn segment", d, config(100), api.ErrTorn)
	refuses(t, "a broken rule", lay(t, segs...), config(100), api.ErrArchive)
	d = lay(t, segs...)
	set(t, d, name(3), framed(segs[2]...)+"torn")
	d.Limit(d.Used())
	refuses(t, "no room to cut", d, config(100), api.ErrFull)
	d.Limit(room)
	refuses(t, "room to cut", d, config(100), api.ErrArchive)
}

// The last segment, where it is empty and not the first one, gets its seal, and that is safe.
func TestOpenSeals(t *testing.T) {
	first := []string{held("h", ""), lifted("h")}
	for _, segs := range [][][]string{{first}, chained(first, nil), chained(first, first, first)} {
		for _, torn := range []string{"", "t", "torn", framed("whole")[:12]} {
			d := lay(t, segs...)
			set(t, d, name(len(segs)+1), torn)
			// The file that is cut off stands beside the torn one for a while; behind it there is room for the seal alone.
			d.Limit(d.Used() - len(torn) + 81)
			a := open(t, d, config(100))
			m := modelOf(100, append(slices.Clone(segs), []string{due(1, segs)}))
			m.room = d.Used()
			holds(t, "sealed", d, a, m)
			fail(t, d)
			d.Start(nil)
			holds(t, "sealed and safe", d, open(t, d, config(100)), m)
		}
	}
}

func TestOpenSealsWithoutRoom(t *testing.T) {
	segs := [][]string{{held("h", ""), lifted("h")}, nil}
	d := lay(t, segs...)
	for n := range 81 {
		d.Limit(d.Used() + n)
		refuses(t, "no room to seal", d, config(100), api.ErrFull)
		if got := contents(d); !slices.Equal(got, filesOf(segs)) {
			t.Errorf("no room to seal: got %s", short(got))
		}
	}
	d.Limit(d.Used() + 81)
	open(t, d, config(100))
	d.Limit(0)
	open(t, d, config(100))
}

// A first segment that is empty has no seal.
func TestOpenSealsNoFirst(t *testing.T) {
	d := lay(t, nil)
	d.Arm(1)
	holds(t, "empty", d, open(t, d, config(100)), newModel(100))
}

// P17.2

func TestIngest(t *testing.T) {
	d := disk.New(room)
	a, m := open(t, d, config(150)), newModel(150)
	for i, body := range []string{"first", "", "a\x00b\xff\r\n.", strings.Repeat("long ", 1000), "again", "again"} {
		e := sent("a@b", int64(i), "c@d", "e@F")
		ingests(t, a, e, body, int64(i+1))
		want(t, "the model", m.ingest(e, body), api.OK)
		holds(t, "ingested", d, a, m)
		fail(t, d)
		d.Start(nil)
		a = open(t, d, config(150))
		holds(t, "opened again", d, a, m)
	}
}

func TestIngestClasses(t *testing.T) {
	d := disk.New(room)
	a := open(t, d, config(1000))
	for i, x := range []struct {
		class string
		e     api.Envelope
	}{
		{"all", sent("a@b", 0, "c@d")},
		{"legal", sent("a@X.org", 0, "c@d")},
		{"legal", sent("", 0, "c@d", "e@x.ORG")},
		{"short", sent("a@y.org", 0, "c@d")},
		{"legal", sent("a@y.org", 0, "c@x.org")},
		{"all", sent("a@z.org", 0, "c@d")},
		{"short", sent("a@z.org", 0, "c@y.org")},
		{"all", sent("", 0, "c@x.orgs")},
	} {
		ingests(t, a, x.e, "x", int64(i+1))
		if m, err := a.Fetch(int64(i + 1)); m.Class != x.class || err != api.OK {
			t.Errorf("%v: got %q, %d", x.e, m.Class, err)
		}
	}
}

// aLot is n recipients.
func aLot(n int) []string {
	var l []string
	for i := range n {
		l = append(l, "r"+strconv.Itoa(i)+"@d")
	}
	return l
}

func TestIngestRefuses(t *testing.T) {
	d := disk.New(10 * room)
	a, m := open(t, d, config(100)), newModel(100)
	m.room = 10 * room
	long := strings.Repeat("x", 500_001)
	for _, x := range []struct {
		e    api.Envelope
		body string
		ok   bool
	}{
		{plain(0), "", true},
		{plain(math.MaxInt64), "", true},
		{plain(-1), "", false},
		{plain(math.MinInt64), "", false},
		{sent("", 0, "c@d"), "", true},
		{sent("a", 0, "c@d"), "", false},
		{sent("a@b", 0), "", false},
		{sent("a@b", 0, ""), "", false},
		{sent("a@b", 0, "c@d", "e"), "", false},
		{sent("a@b", 0, aLot(100)...), "", true},
		{sent("a@b", 0, aLot(101)...), "", false},
		{plain(0), long[1:], true},
		{plain(0), long, false},
	} {
		id, err := a.Ingest(x.e, []byte(x.body))
		if !x.ok {
			if id != 0 || err != api.ErrEntry {
				t.Errorf("%s, %d bytes: got %d, %d", short(x.e.To), len(x.body), id, err)
			}
			continue
		}
		if m.ingest(x.e, x.body) != api.OK || id != m.last || err != api.OK {
			t.Errorf("%s, %d bytes: got %d, %d, want %d", short(x.e.To), len(x.body), id, err, m.last)
		}
	}
	holds(t, "refused and not", d, a, m)
}

// Behind the greatest number there is none, whether it is that of a live message or of a purged one.
func TestIngestBehindMaxID(t *testing.T) {
	last := api.Message{ID: api.MaxID, Class: "all", Env: plain(1), Body: []byte("last")}
	ahead := last
	ahead.ID--
	for _, rec := range []string{told(last), left(api.MaxID, 5, leafOf("x"))} {
		d := lay(t, []string{rec, held("h", "")})
		a, was := open(t, d, config(1000)), contents(d)
		if id, err := a.Ingest(plain(0), nil); id != 0 || err != api.ErrLong {
			t.Errorf("Ingest: got %d, %d", id, err)
		}
		if id, err := a.Ingest(api.Envelope{}, nil); id != 0 || err != api.ErrEntry {
			t.Errorf("Ingest of nothing: got %d, %d", id, err)
		}
		if got := contents(d); !slices.Equal(got, was) {
			t.Errorf("got %s", short(got))
		}
		want(t, "Hold", a.Hold(api.Hold{Name: "g"}), api.OK)
	}
	a := open(t, lay(t, []string{told(ahead)}), config(1000))
	ingests(t, a, plain(0), "the last one", api.MaxID)
	if id, err := a.Ingest(plain(0), nil); id != 0 || err != api.ErrLong {
		t.Errorf("Ingest: got %d, %d", id, err)
	}
}

// Behind the greatest segment there is none.
func TestIngestBehindMaxSeg(t *testing.T) {
	d := disk.New(room)
	set(t, d, "arch.999999", framed(told(api.Message{ID: 1, Class: "all", Env: plain(0), Body: make([]byte, 100)})))
	a, was := open(t, d, config(100)), contents(d)
	for range 2 {
		if id, err := a.Ingest(plain(0), nil); id != 0 || err != api.ErrLong {
			t.Errorf("Ingest: got %d, %d", id, err)
		}
		want(t, "Hold", a.Hold(api.Hold{Name: "h"}), api.ErrLong)
		want(t, "Lift", a.Lift("h"), api.ErrNone)
	}
	if got := contents(d); !slices.Equal(got, was) || !slices.Equal(a.Live(), []int64{1}) || len(a.Holds()) != 0 {
		t.Errorf("got %s, %v, %v", short(got), a.Live(), a.Holds())
	}
}

// A segment is full as soon as it has as many bytes as its size.
func TestIngestFillsASegment(t *testing.T) {
	size := len(framed(told(api.Message{ID: 1, Class: "all", Env: plain(0), Body: make([]byte, 100)})))
	for more := -2; more < 3; more++ {
		d := disk.New(room)
		a, m := open(t, d, config(size+more)), newModel(size+more)
		for i := range int64(6) {
			ingests(t, a, plain(0), string(make([]byte, 100)), i+1)
			m.ingest(plain(0), string(make([]byte, 100)))
		}
		holds(t, "filled", d, a, m)
		// Behind the first one each has a seal, and is full with one message.
		segs := 6
		if more > 0 {
			segs = 5
		}
		if n := len(d.Names()); n != segs {
			t.Errorf("size %d: %d segments, want %d", size+more, n, segs)
		}
	}
}

// Of a full disk each step may have no room; with room again all goes on, by the same number.
func TestIngestWithoutRoom(t *testing.T) {
	c := config(100)
	d := disk.New(room)
	a, m := open(t, d, c), newModel(100)
	ingests(t, a, plain(0), "the first one", 1)
	ingests(t, a, plain(0), "the second one", 2)
	m.ingest(plain(0), "the first one")
	m.ingest(plain(0), "the second one")
	used := d.Used()
	record := len(framed(told(api.Message{ID: 3, Class: "all", Env: plain(0), Body: []byte("third")})))
	for _, free := range []int{0, 1, 80, 81, 82, 81 + record - 1} {
		m.room = used + free
		d.Limit(m.room)
		for range 2 {
			id, err := a.Ingest(plain(0), []byte("third"))
			if id != 0 || err != api.ErrFull || m.ingest(plain(0), "third") != api.ErrFull {
				t.Errorf("%d bytes free: got %d, %d", free, id, err)
			}
			holds(t, "full", d, a, m)
			want(t, "Hold", a.Hold(api.Hold{Name: strings.Repeat("h", 30), Who: "a@b"}), m.hold(strings.Repeat("h", 30), "a@b"))
			want(t, "Lift", a.Lift("h"), api.ErrNone)
			holds(t, "full for a hold", d, a, m)
		}
		_, err := a.Prove(1)
		if sealed := free >= 81; (err == api.OK) != sealed {
			t.Errorf("%d bytes free: Prove: got %d", free, err)
		}
	}
	m.room = used + 81 + record
	d.Limit(m.room)
	ingests(t, a, plain(0), "third", 3)
	want(t, "the model", m.ingest(plain(0), "third"), api.OK)
	holds(t, "room again", d, a, m)
	holds(t, "opened again", d, open(t, d, c), m)
}

// P17.3

func TestFetch(t *testing.T) {
	d := lay(t, chained([]string{held("h", ""), told(api.Message{ID: 3, Class: "all", Env: plain(5), Body: []byte("first")})}, []string{left(5, 9, leafOf("x")), told(api.Message{ID: 9, Class: "gone", Env: sent("", 0, "e@f", "a@b")})})...)
	a := open(t, d, config(100))
	for id, want := range map[int64]api.Message{3: {ID: 3, Class: "all", Env: plain(5), Body: []byte("first")}, 9: {ID: 9, Class: "gone", Env: sent("", 0, "e@f", "a@b")}} {
		if m, err := a.Fetch(id); !alike(m, want) || err != api.OK {
			t.Errorf("%d: got %v, %d", id, m, err)
		}
	}
	for _, id := range []int64{0, 1, 2, 4, 5, 6, 8, 10, -1, -3, -9, api.MaxID, 3 + 1<<32, math.MaxInt64, math.MinInt64} {
		if m, err := a.Fetch(id); !alike(m, api.Message{}) || err != api.ErrNone {
			t.Errorf("%d: got %v, %d", id, m, err)
		}
	}
	if l := a.Live(); !slices.Equal(l, []int64{3, 9}) {
		t.Errorf("Live: got %v", l)
	}
}

func TestLiveOfMuch(t *testing.T) {
	a := open(t, disk.New(1<<20), config(500))
	var all []int64
	for i := range int64(300) {
		ingests(t, a, plain(i%7), strconv.FormatInt(i, 10), i+1)
		all = append(all, i+1)
		if l := a.Live(); !slices.Equal(l, all) {
			t.Fatalf("got %v", l)
		}
	}
	for i, id := range all {
		if m, err := a.Fetch(id); err != api.OK || string(m.Body) != strconv.Itoa(i) || m.ID != id {
			t.Errorf("%d: got %v, %d", id, m, err)
		}
	}
}

// P17.4

func TestHolds(t *testing.T) {
	d := disk.New(room)
	a, m := open(t, d, config(150)), newModel(150)
	for _, name := range []string{"h", "-", "case-1", "0", strings.Repeat("z", 30), "a", "b"} {
		for _, who := range []string{"", "a@B", "c@d"} {
			// Of a name that is there already the second hold is refused.
			want(t, name, a.Hold(api.Hold{Name: name, Who: who}), m.hold(name, who))
			holds(t, name, d, a, m)
		}
	}
	for _, name := range []string{"case-1", "case-1", "h", "b", "none", "", "0", "H"} {
		want(t, name, a.Lift(name), m.lift(name))
		holds(t, name, d, a, m)
	}
	want(t, "a name that is lifted", a.Hold(api.Hold{Name: "h"}), api.OK)
	m.hold("h", "")
	fail(t, d)
	d.Start(nil)
	holds(t, "opened again", d, open(t, d, config(150)), m)
	if l := a.Holds(); !slices.Equal(l, []api.Hold{{Name: "-"}, {Name: strings.Repeat("z", 30)}, {Name: "a"}, {Name: "h"}}) {
		t.Errorf("got %v", l)
	}
}

func TestHoldRefuses(t *testing.T) {
	d := disk.New(room)
	a := open(t, d, config(150))
	want(t, "Hold", a.Hold(api.Hold{Name: "h"}), api.OK)
	was := contents(d)
	for _, h := range []api.Hold{{}, {Who: "a@b"}, {Name: "H"}, {Name: "h"}, {Name: "h", Who: "a@b"}, {Name: "g", Who: "a"}, {Name: "g", Who: " "}, {Name: strings.Repeat("g", 31)}} {
		want(t, "Hold of "+h.Name, a.Hold(h), api.ErrHold)
	}
	for _, name := range []string{"", "g", "H", "h ", "\x00"} {
		want(t, "Lift of "+name, a.Lift(name), api.ErrNone)
	}
	if got := contents(d); !slices.Equal(got, was) || !slices.Equal(a.Holds(), []api.Hold{{Name: "h"}}) {
		t.Errorf("got %s, %v", short(got), a.Holds())
	}
}

func TestHoldHowMany(t *testing.T) {
	d := disk.New(room)
	a := open(t, d, config(150))
	for i := range 100 {
		want(t, "Hold", a.Hold(api.Hold{Name: strconv.Itoa(i)}), api.OK)
	}
	was := contents(d)
	want(t, "one more", a.Hold(api.Hold{Name: "h"}), api.ErrLong)
	want(t, "one that is there", a.Hold(api.Hold{Name: "0"}), api.ErrHold)
	if got := contents(d); !slices.Equal(got, was) || len(a.Holds()) != 100 {
		t.Errorf("got %s", short(got))
	}
	want(t, "Lift", a.Lift("50"), api.OK)
	want(t, "one more", a.Hold(api.Hold{Name: "h"}), api.OK)
	a = open(t, d, config(150))
	want(t, "opened again", a.Hold(api.Hold{Name: "g"}), api.ErrLong)
	if l := a.Holds(); len(l) != 100 || l[49].Name != "49" || l[50].Name != "51" || l[99].Name != "h" {
		t.Errorf("got %v", l)
	}
}

// P17.5

func TestPropose(t *testing.T) {
	a := open(t, disk.New(room), config(150))
	ingests(t, a, plain(5), "over at 15", 1)
	ingests(t, a, sent("", 5, "c@x.org"), "over at 3605", 2)
	ingests(t, a, sent("e@y.org", 5, "c@d"), "over at 6", 3)
	ingests(t, a, plain(0), "over at 10", 4)
	ingests(t, a, plain(math.MaxInt64), "over in the end", 5)
	for now, want := range map[int64][]int64{
		math.MinInt64: nil, -1: nil, 0: nil, 5: nil, 6: {3}, 9: {3}, 10: {3, 4}, 14: {3, 4}, 15: {1, 3, 4}, 16: {1, 3, 4},
		3604: {1, 3, 4}, 3605: {1, 2, 3, 4}, math.MaxInt64 - 1: {1, 2, 3, 4}, math.MaxInt64: {1, 2, 3, 4, 5},
	} {
		if l := a.Propose(now); !slices.Equal(l, want) {
			t.Errorf("at %d: got %v, want %v", now, l, want)
		}
	}
}

func TestProposeUnderHolds(t *testing.T) {
	a := open(t, disk.New(room), config(150))
	ingests(t, a, sent("a@B", 0, "c@d", "e@f"), "x", 1)
	ingests(t, a, sent("c@d", 0, "g@h"), "x", 2)
	ingests(t, a, sent("", 0, "e@f"), "x", 3)
	for _, x := range []struct {
		who  string
		free []int64
	}{{"", nil}, {"a@b", []int64{2, 3}}, {"A@b", []int64{1, 2, 3}}, {"c@D", []int64{3}}, {"e@f", []int64{2}}, {"g@h", []int64{1, 3}}, {"q@q", []int64{1, 2, 3}}} {
		want(t, "Hold", a.Hold(api.Hold{Name: "h", Who: x.who}), api.OK)
		if l := a.Propose(10); !slices.Equal(l, x.free) {
			t.Errorf("%q: got %v, want %v", x.who, l, x.free)
		}
		want(t, "a second one", a.Hold(api.Hold{Name: "g", Who: "q@r"}), api.OK)
		if l := a.Propose(10); !slices.Equal(l, x.free) {
			t.Errorf("%q and another: got %v, want %v", x.who, l, x.free)
		}
		want(t, "Lift", a.Lift("h"), api.OK)
		want(t, "Lift", a.Lift("g"), api.OK)
		if l := a.Propose(10); len(l) != 3 {
			t.Errorf("lifted: got %v", l)
		}
	}
}

// A message has the class that it was given when it came: as long as no class is called so, its time isn't up.
func TestProposeByOtherClasses(t *testing.T) {
	d := disk.New(room)
	ingests(t, open(t, d, config(150)), plain(0), "x", 1)
	c := config(150)
	c.Classes, c.Rules = c.Classes[1:], nil
	a := open(t, d, c)
	ingests(t, a, plain(0), "x", 2)
	for now, want := range map[int64][]int64{10: nil, 3600: {2}, math.MaxInt64: {2}} {
		if l := a.Propose(now); !slices.Equal(l, want) {
			t.Errorf("at %d: got %v, want %v", now, l, want)
		}
	}
	c.Classes = []api.Class{{Name: "all", Keep: 100}}
	if l := open(t, d, c).Propose(100); !slices.Equal(l, []int64{1}) {
		t.Errorf("kept longer: got %v", l)
	}
}

// P17.6

// many is an archive of n messages that came at 0, each of the first class, in segments of some three.
func many(t *testing.T, n int) (*disk.Disk, *archive.Archive, *model) {
	t.Helper()
	d := disk.New(room)
	a, m := open(t, d, config(200)), newModel(200)
	for i := range n {
		ingests(t, a, plain(0), "message "+strconv.Itoa(i), int64(i+1))
		m.ingest(plain(0), "message "+strconv.Itoa(i))
	}
	return d, a, m
}

// purges fails the test unless Purge answers those numbers and that error, as the model does.
func purges(t *testing.T, what string, d *disk.Disk, a *archive.Archive, m *model, now int64, ids []int64, gone ...int64) {
	t.Helper()
	was := slices.Clone(ids)
	l, err := a.Purge(now, ids)
	want, wantErr := m.purge(now, ids)
	if !slices.Equal(l, want) || err != wantErr || !slices.Equal(l, gone) {
		t.Errorf("%s: got %v, %d, want %v, %d", what, l, err, want, wantErr)
	}
	if !slices.Equal(ids, was) {
		t.Errorf("%s: the numbers were changed: %v", what, ids)
	}
	holds(t, what, d, a, m)
}

func TestPurge(t *testing.T) {
	d, a, m := many(t, 9)
	d.Arm(1)
	purges(t, "nothing", d, a, m, 10, nil)
	purges(t, "none that is there", d, a, m, 10, []int64{0, -1, 10, math.MaxInt64, math.MinInt64, 1 + 1<<32})
	purges(t, "none that is over", d, a, m, 9, []int64{1, 2, 3})
	purges(t, "now below 0", d, a, m, -1, []int64{1, 2, 3})
	purges(t, "now far below 0", d, a, m, math.MinInt64, []int64{1, 2, 3})
	d.Arm(0)
	purges(t, "one", d, a, m, 10, []int64{2}, 2)
	purges(t, "the same", d, a, m, 10, []int64{2})
	purges(t, "falling, twice, some not there", d, a, m, 11, []int64{9, 0, 5, 5, 2, 77, 9, 1}, 1, 5, 9)
	purges(t, "all", d, a, m, math.MaxInt64, []int64{1, 2, 3, 4, 5, 6, 7, 8, 9}, 3, 4, 6, 7, 8)
	purges(t, "all again", d, a, m, math.MaxInt64, []int64{1, 2, 3, 4, 5, 6, 7, 8, 9})
	a = open(t, d, config(200))
	holds(t, "opened again", d, a, m)
	ingests(t, a, plain(0), "next", 10)
	m.ingest(plain(0), "next")
	holds(t, "one more", d, a, m)
	var gone []int64
	for _, p := range a.Ledger() {
		gone = append(gone, p.ID, p.At)
	}
	if !slices.Equal(gone, []int64{1, 11, 2, 10, 3, math.MaxInt64, 4, math.MaxInt64, 5, 11, 6, math.MaxInt64, 7, math.MaxInt64, 8, math.MaxInt64, 9, 11}) {
		t.Errorf("Ledger: got %v", gone)
	}
}

func TestPurgeUnderHolds(t *testing.T) {
	d := disk.New(room)
	a, m := open(t, d, config(150)), newModel(150)
	for i, e := range []api.Envelope{sent("a@b", 0, "c@d"), sent("e@f", 0, "a@B"), sent("e@f", 0, "c@d"), sent("", 5, "c@d"), sent("", 0, "c@x.org")} {
		ingests(t, a, e, "x", int64(i+1))
		m.ingest(e, "x")
	}
	all := []int64{1, 2, 3, 4, 5}
	want(t, "Hold", a.Hold(api.Hold{Name: "all"}), m.hold("all", ""))
	purges(t, "all held", d, a, m, 15, all)
	want(t, "Hold", a.Hold(api.Hold{Name: "one", Who: "a@b"}), m.hold("one", "a@b"))
	want(t, "Lift", a.Lift("all"), m.lift("all"))
	purges(t, "some held, some not over", d, a, m, 14, all, 3)
	purges(t, "some held", d, a, m, 15, all, 4)
	want(t, "Lift", a.Lift("one"), m.lift("one"))
	purges(t, "one not over", d, a, m, 3599, all, 1, 2)
	purges(t, "over", d, a, m, 3600, all, 5)
}

// Where a segment's Rewrite has no room, those ahead of it are purged, and the others are not. These records grow as they are purged, so that each segment leaves less room for the next one.
func TestPurgeWithoutRoom(t *testing.T) {
	purged := len(framed(left(1, 10, [32]byte{})))
	for _, x := range []struct {
		free int
		gone int
	}{{0, 0}, {1, 0}, {8*purged - 1, 0}, {8 * purged, 8}, {8*purged + 86, 8}, {8*purged + 87, 14}, {1000, 20}} {
		d := disk.New(room)
		a, m := open(t, d, config(300)), newModel(300)
		var all []int64
		for i := range int64(20) {
			ingests(t, a, plain(0), "", i+1)
			m.ingest(plain(0), "")
			all = append(all, i+1)
		}
		if len(m.segs[0]) != 8 || len(m.segs[1]) != 7 {
			t.Fatalf("segments of %d and %d", len(m.segs[0]), len(m.segs[1]))
		}
		m.room = d.Used() + x.free
		d.Limit(m.room)
		l, err := a.Purge(10, all)
		want, wantErr := m.purge(10, all)
		if !slices.Equal(l, want) || err != wantErr || !slices.Equal(l, all[:x.gone]) || (err == api.ErrFull) != (x.gone < 20) {
			t.Errorf("%d bytes free: got %v, %d, want %v, %d", x.free, l, err, want, wantErr)
		}
		holds(t, "behind it", d, a, m)
		m.room = room
		d.Limit(room)
		purges(t, "room again", d, a, m, 11, all, all[x.gone:]...)
	}
}

// A record may grow as it is purged; then the last segment may be full, or one that was full no longer so.
func TestPurgeInTheLastSegment(t *testing.T) {
	d := disk.New(room)
	a, m := open(t, d, config(300)), newModel(300)
	ingests(t, a, plain(0), strings.Repeat("x", 300), 1)
	m.ingest(plain(0), strings.Repeat("x", 300))
	purges(t, "no longer full", d, a, m, 10, []int64{1}, 1)
	for i := range 6 {
		ingests(t, a, plain(0), "", int64(i+2))
		m.ingest(plain(0), "")
		purges(t, "one by one", d, a, m, 10, []int64{int64(i + 2)}, int64(i+2))
	}
	if n := len(d.Names()); n != 2 {
		t.Errorf("%d segments", n)
	}
}

// P17.7

func TestLedger(t *testing.T) {
	x, y := leafOf("x"), leafOf("y")
	a := open(t, lay(t, chained([]string{left(3, 9, x), left(4, 0, y)}, []string{left(1<<40, math.MaxInt64, x)})...), config(100))
	if l := a.Ledger(); !slices.Equal(l, []api.Purged{{ID: 3, Leaf: x, At: 9}, {ID: 4, Leaf: y}, {ID: 1 << 40, Leaf: x, At: math.MaxInt64}}) {
		t.Errorf("got %v", l)
	}
	if l := open(t, disk.New(0), config(100)).Ledger(); len(l) != 0 {
		t.Errorf("of nothing: got %v", l)
	}
}

// P17.8

// Each record of each segment is proved, ahead of a purge and behind it; the open segment's are not.
func TestProve(t *testing.T) {
	d, a, m := many(t, 20)
	ahead := map[int64]api.Proof{}
	for id := range int64(22) {
		p, err := a.Prove(id)
		if want, wantErr := m.prove(id); !same(p, want) || err != wantErr || (err == api.OK) != archive.Proves(p) {
			t.Errorf("%d: got %v, %d, want %v, %d", id, p, err, want, wantErr)
		}
		ahead[id] = p
	}
	if _, err := a.Prove(20); err != api.ErrNone || len(m.segs) < 6 {
		t.Errorf("of the open segment: got %d; %d segments", err, len(m.segs))
	}
	for _, id := range []int64{-1, math.MinInt64, math.MaxInt64, api.MaxID, 1 + 1<<32} {
		if p, err := a.Prove(id); !same(p, api.Proof{}) || err != api.ErrNone {
			t.Errorf("%d: got %v, %d", id, p, err)
		}
	}
	purges(t, "some", d, a, m, 10, []int64{1, 2, 3, 7, 8, 19, 20}, 1, 2, 3, 7, 8, 19, 20)
	for id, p := range ahead {
		if q, err := a.Prove(id); !same(p, q) || (err == api.OK) != archive.Proves(q) {
			t.Errorf("%d, behind a purge: got %v, %d, want %v", id, q, err, p)
		}
	}
}

// Of a segment with many records, too.
func TestProveOfMuch(t *testing.T) {
	d := disk.New(room)
	a, m := open(t, d, config(2000)), newModel(2000)
	for i := range int64(80) {
		ingests(t, a, plain(i), "x", i+1)
		m.ingest(plain(i), "x")
	}
	if len(m.segs) != 2 || len(m.segs[0]) < 40 {
		t.Fatalf("%d segments, %d records", len(m.segs), len(m.segs[0]))
	}
	for id := range int64(82) {
		p, err := a.Prove(id)
		if want, wantErr := m.prove(id); !same(p, want) || err != wantErr || (err == api.OK) != archive.Proves(p) {
			t.Errorf("%d: got %v, %d, want %v, %d", id, p, err, want, wantErr)
		}
	}
}

// A proof in which a field is another one is none.
func TestProves(t *testing.T) {
	_, a, m := many(t, 9)
	for id := range int64(5) {
		p, err := a.Prove(id + 1)
		if err != api.OK || !archive.Proves(p) {
			t.Fatalf("%d: got %v, %d", id+1, p, err)
		}
		other, _ := m.prove(id + 4)
		for what, q := range map[string]api.Proof{
			"another root":     {Seal: api.Seal{Seg: p.Seal.Seg, Count: p.Seal.Count, Root: other.Leaf, Prev: p.Seal.Prev}, At: p.At, Leaf: p.Leaf, Way: p.Way},
			"no record":        {Seal: api.Seal{Seg: p.Seal.Seg, Root: p.Seal.Root, Prev: p.Seal.Prev}, At: p.At, Leaf: p.Leaf, Way: p.Way},
			"below 0 of them":  {Seal: api.Seal{Seg: p.Seal.Seg, Count: -p.Seal.Count, Root: p.Seal.Root}, At: p.At, Leaf: p.Leaf, Way: p.Way},
			"twice as many":    {Seal: api.Seal{Seg: p.Seal.Seg, Count: 8 * p.Seal.Count, Root: p.Seal.Root}, At: p.At, Leaf: p.Leaf, Way: p.Way},
			"one behind":       {Seal: p.Seal, At: p.At + 1, Leaf: p.Leaf, Way: p.Way},
			"one ahead":        {Seal: p.Seal, At: p.At - 1, Leaf: p.Leaf, Way: p.Way},
			"the end":          {Seal: p.Seal, At: p.Seal.Count, Leaf: p.Leaf, Way: p.Way},
			"another leaf":     {Seal: p.Seal, At: p.At, Leaf: other.Leaf, Way: p.Way},
			"no way":           {Seal: p.Seal, At: p.At, Leaf: p.Leaf},
			"a longer way":     {Seal: p.Seal, At: p.At, Leaf: p.Leaf, Way: append(slices.Clone(p.Way), p.Leaf)},
			"a shorter way":    {Seal: p.Seal, At: p.At, Leaf: p.Leaf, Way: p.Way[1:]},
			"a way turned off": {Seal: p.Seal, At: p.At, Leaf: p.Leaf, Way: append([][32]byte{other.Leaf}, p.Way[1:]...)},
			"nothing":          {},
		} {
			if archive.Proves(q) {
				t.Errorf("%d: %s is taken", id+1, what)
			}
		}
		// Of the segment's number and of the sum ahead a tree knows nothing.
		p.Seal.Seg, p.Seal.Prev = -1, p.Leaf
		if !archive.Proves(p) {
			t.Errorf("%d: with another number it isn't taken", id+1)
		}
	}
	one := leafOf("x")
	if !archive.Proves(api.Proof{Seal: api.Seal{Count: 1, Root: one}, Leaf: one}) || archive.Proves(api.Proof{Seal: api.Seal{Count: math.MaxInt, Root: one}, At: math.MaxInt - 1, Leaf: one}) {
		t.Errorf("a tree of one, and one of very many")
	}
}

// Nil archives and such as nobody made

func TestNobodysArchive(t *testing.T) {
	dead(t, "nil", nil)
	dead(t, "nobody's", new(archive.Archive))
	dead(t, "nobody's", &archive.Archive{})
}

// Once a call has answered ErrDead all do, also with the power back; up to then, what needs no disk is answered.
func TestDead(t *testing.T) {
	for what, call := range map[string]func(a *archive.Archive) api.Errno{
		"Ingest": func(a *archive.Archive) api.Errno { _, err := a.Ingest(plain(0), nil); return err },
		"Hold":   func(a *archive.Archive) api.Errno { return a.Hold(api.Hold{Name: "g"}) },
		"Lift":   func(a *archive.Archive) api.Errno { return a.Lift("h") },
		"Purge":  func(a *archive.Archive) api.Errno { _, err := a.Purge(10, []int64{1, 4}); return err },
	} {
		d, a, _ := many(t, 7)
		want(t, "Hold", a.Hold(api.Hold{Name: "h", Who: "q@q"}), api.OK)
		fail(t, d)
		if m, err := a.Fetch(1); err != api.OK || string(m.Body) != "message 0" || len(a.Live()) != 7 || len(a.Holds()) != 1 || len(a.Propose(10)) != 7 {
			t.Errorf("%s: ahead of it: got %v, %d", what, m, err)
		}
		if _, err := a.Prove(1); err != api.OK {
			t.Errorf("%s: Prove ahead of it: got %d", what, err)
		}
		want(t, what+" of what may not be", a.Hold(api.Hold{}), api.ErrHold)
		want(t, what, call(a), api.ErrDead)
		dead(t, what, a)
		d.Start(nil)
		dead(t, what+", with power again", a)
		if a = open(t, d, config(200)); len(a.Live()) != 7 || len(a.Holds()) != 1 {
			t.Errorf("%s: opened again: got %v, %v", what, a.Live(), a.Holds())
		}
	}
}

// Other errors leave an archive alive.
func TestOtherErrorsLeaveItAlive(t *testing.T) {
	d, a, m := many(t, 7)
	d.Limit(0)
	m.room = 0
	a.Ingest(plain(0), nil)
	m.ingest(plain(0), "")
	a.Ingest(api.Envelope{}, nil)
	a.Fetch(0)
	a.Prove(0)
	a.Hold(api.Hold{})
	a.Hold(api.Hold{Name: "h"})
	a.Lift("h")
	a.Purge(10, []int64{1})
	holds(t, "alive", d, a, m)
	d.Limit(room)
	ingests(t, a, plain(0), "", 8)
}
