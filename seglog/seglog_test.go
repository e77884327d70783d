package seglog_test

import (
	"encoding/binary"
	"hash/crc32"
	"math"
	"slices"
	"strings"
	"testing"

	"scriptorium/api"
	"scriptorium/disk"
	"scriptorium/seglog"
)

// longest is how many bytes a record may have.
const longest = 1000000

var tooLong = make([]byte, longest+1)

// framed is those texts as records, by hand: eight bytes and the text for each.
func framed(texts ...string) string {
	var out []byte
	for _, s := range texts {
		out = binary.LittleEndian.AppendUint32(out, uint32(len(s)))
		out = binary.LittleEndian.AppendUint32(out, crc32.ChecksumIEEE([]byte(s)))
		out = append(out, s...)
	}
	return string(out)
}

// recs is those texts as a list of bytes.
func recs(texts ...string) [][]byte {
	l := make([][]byte, len(texts))
	for i, s := range texts {
		l[i] = []byte(s)
	}
	return l
}

// lay is a disk of room 1000 with those files, all safe: a name, its bytes, and so on.
func lay(t *testing.T, pairs ...string) *disk.Disk {
	t.Helper()
	d := disk.New(1000)
	for i := 0; i < len(pairs); i += 2 {
		if d.Append(pairs[i], []byte(pairs[i+1])) != api.OK || d.Sync(pairs[i]) != api.OK {
			t.Fatalf("no file %q", pairs[i])
		}
	}
	return d
}

// files fails the test unless the disk's files are just those: a name, its bytes, and so on.
func files(t *testing.T, what string, d *disk.Disk, pairs ...string) {
	t.Helper()
	var names []string
	for i := 0; i < len(pairs); i += 2 {
		names = append(names, pairs[i])
		if b, err := d.Read(pairs[i]); string(b) != pairs[i+1] || err != api.OK {
			t.Errorf("%s: file %q: got %q, %d, want %q", what, pairs[i], b, err, pairs[i+1])
		}
	}
	if got := d.Names(); !slices.Equal(got, names) {
		t.Errorf("%s: files: got %q, want %q", what, got, names)
	}
}

// fail lets the power fail in a change that does nothing else, and that no log sees.
func fail(t *testing.T, d *disk.Disk) {
	t.Helper()
	d.Arm(1)
	if err := d.Create("q"); err != api.ErrDead {
		t.Fatalf("Create in which the power fails: got %d", err)
	}
}

// open is the log "x" on that disk.
func open(t *testing.T, d *disk.Disk, size int) *seglog.Log {
	t.Helper()
	l, err := seglog.Open(d, "x", size)
	if err != api.OK || l == nil {
		t.Fatalf("Open: got %v, %d", l, err)
	}
	return l
}

// refuses fails the test unless Open answers that error, and no log.
func refuses(t *testing.T, what string, d *disk.Disk, name string, size int, want api.Errno) {
	t.Helper()
	if l, err := seglog.Open(d, name, size); err != want || l != nil {
		t.Errorf("%s: Open: got %v, %d, want %d", what, l, err, want)
	}
}

// filled is a log "x" on a new disk of room 1000, to which those texts were appended.
func filled(t *testing.T, size int, texts ...string) (*disk.Disk, *seglog.Log) {
	t.Helper()
	d := disk.New(1000)
	l := open(t, d, size)
	fill(t, l, texts...)
	return d, l
}

func fill(t *testing.T, l *seglog.Log, texts ...string) {
	t.Helper()
	for _, s := range texts {
		if _, err := l.Append([]byte(s)); err != api.OK {
			t.Fatalf("Append of %q: got %d", s, err)
		}
	}
}

// texts is what Records answers.
func texts(l *seglog.Log, seg int) []string {
	var out []string
	for _, rec := range l.Records(seg) {
		out = append(out, string(rec))
	}
	return out
}

// tells fails the test unless the log has just the segments from first on with those records.
func tells(t *testing.T, what string, l *seglog.Log, first int, segs ...[]string) {
	t.Helper()
	var numbers []int
	for i, want := range segs {
		numbers = append(numbers, first+i)
		if got := texts(l, first+i); !slices.Equal(got, want) {
			t.Errorf("%s: Records(%d): got %q, want %q", what, first+i, got, want)
		}
	}
	if got := l.Segments(); !slices.Equal(got, numbers) {
		t.Errorf("%s: Segments: got %v, want %v", what, got, numbers)
	}
}

// want fails the test unless the errors are those, in order.
func want(t *testing.T, what string, got []api.Errno, errs ...api.Errno) {
	t.Helper()
	if !slices.Equal(got, errs) {
		t.Errorf("%s: got %v, want %v", what, got, errs)
	}
}

// appends fails the test unless Append answers that place and that error.
func appends(t *testing.T, what string, l *seglog.Log, rec []byte, at api.Place, err api.Errno) {
	t.Helper()
	if gotAt, got := l.Append(rec); got != err || gotAt != at {
		t.Errorf("%s: Append: got %v, %d, want %v, %d", what, gotAt, got, at, err)
	}
}

// dead fails the test unless all calls answer ErrDead, whatever they are given, and nothing is there.
func dead(t *testing.T, what string, l *seglog.Log) {
	t.Helper()
	for _, rec := range [][]byte{nil, []byte("abc"), tooLong} {
		appends(t, what, l, rec, api.Place{}, api.ErrDead)
		want(t, what, []api.Errno{l.Sync(), l.Roll()}, api.ErrDead, api.ErrDead)
		for _, seg := range []int{math.MinInt, -1, 0, 1, 2, 9, api.MaxSeg, math.MaxInt} {
			want(t, what, []api.Errno{l.Rewrite(seg, [][]byte{rec}), l.Rewrite(seg, nil), l.Drop(seg)}, api.ErrDead, api.ErrDead, api.ErrDead)
			if got := l.Records(seg); len(got) > 0 {
				t.Errorf("%s: Records(%d): %q", what, seg, got)
			}
		}
	}
	if l.Full() || len(l.Segments()) > 0 {
		t.Errorf("%s: Full %v, Segments %v", what, l.Full(), l.Segments())
	}
}

func TestNumbers(t *testing.T) {
	want(t, "errors", []api.Errno{api.ErrTorn, api.ErrRange, api.ErrLong, api.ErrNone}, 30, 1, 2, 3)
	if api.MaxSeg != 999999 {
		t.Error(api.MaxSeg)
	}
}

// P3.1

func TestOpenOfNoDisk(t *testing.T) {
	down := lay(t, "x.000001", framed("a"))
	fail(t, down)
	for _, d := range []*disk.Disk{nil, new(disk.Disk), down} {
		refuses(t, "ordinary", d, "x", 20, api.ErrDead)
		refuses(t, "ahead of ErrName and ErrRange", d, "X", 0, api.ErrDead)
	}
	down.Start(nil)
	tells(t, "with power again", open(t, down, 20), 1, []string{"a"})
}

func TestOpenNames(t *testing.T) {
	for _, x := range []struct {
		name string
		ok   bool
	}{
		{"x", true}, {"arch", true}, {"queue", true}, {"a-0.z", true}, {"", true}, {".", true}, {"x.000001", true}, {"x.new", true},
		{"X", false}, {"a b", false}, {"a/b", false}, {"_", false}, {"é", false}, {"a\x00", false}, {"a\n", false},
		// With the digits 64 bytes, with .new 68.
		{strings.Repeat("a", 57), false},
		{strings.Repeat("a", 58), false},
		{strings.Repeat("a", 54), false},
		{strings.Repeat("a", 53), true},
		{strings.Repeat("a", 1000), false},
	} {
		d := lay(t, "other", "1")
		if !x.ok {
			refuses(t, x.name, d, x.name, 20, api.ErrName)
			refuses(t, "ahead of ErrRange", d, x.name, 0, api.ErrName)
			files(t, x.name, d, "other", "1")
			continue
		}
		l, err := seglog.Open(d, x.name, 20)
		if err != api.OK {
			t.Errorf("Open of %q: got %d", x.name, err)
			continue
		}
		appends(t, x.name, l, []byte("abc"), api.Place{Seg: 1}, api.OK)
		want(t, x.name, []api.Errno{l.Rewrite(1, recs("d")), l.Roll()}, api.OK, api.OK)
		tells(t, x.name, l, 1, []string{"d"}, nil)
	}
}

func TestOpenSizes(t *testing.T) {
	for _, size := range []int{math.MinInt, -1, 0} {
		d := lay(t, "x.000001", framed("a")+"?", "x.000001.new", "1")
		refuses(t, "size", d, "x", size, api.ErrRange)
		files(t, "size", d, "x.000001", framed("a")+"?", "x.000001.new", "1")
	}
	for _, size := range []int{1, 2, math.MaxInt} {
		d := disk.New(100)
		open(t, d, size)
		files(t, "size", d, "x.000001", "")
	}
}

func TestOpenWithoutASegment(t *testing.T) {
	d := disk.New(0)
	l := open(t, d, 20)
	files(t, "none", d, "x.000001", "")
	tells(t, "none", l, 1, nil)
	appends(t, "no room", l, nil, api.Place{}, api.ErrFull)
}

func TestOpenFindsSegments(t *testing.T) {
	d := lay(t, "x.000002", framed("a", "", "b"), "x.000009", "", "x.000010", framed("c"), "x.000700", framed("d"))
	l := open(t, d, 20)
	if !slices.Equal(l.Segments(), []int{2, 9, 10, 700}) {
		t.Error(l.Segments())
	}
	for seg, texts := range map[int][]string{2: {"a", "", "b"}, 9: nil, 10: {"c"}, 700: {"d"}} {
		var got []string
		for _, rec := range l.Records(seg) {
			got = append(got, string(rec))
		}
		if !slices.Equal(got, texts) {
			t.Errorf("Records(%d): got %q, want %q", seg, got, texts)
		}
	}
	appends(t, "the last one", l, []byte("e"), api.Place{Seg: 700, At: 1}, api.OK)
	files(t, "found", d, "x.000002", framed("a", "", "b"), "x.000009", "", "x.000010", framed("c"), "x.000700", framed("d", "e"))
}

// Files that are named much as the log's are none of it: they are neither read nor changed.
func TestOpenLeavesOtherFiles(t *testing.T) {
	others := []string{
		"000001", "?",
		"000001.new", "?",
		"wx.000001", "?",
		"x", "?",
		"x.", "?",
		"x.-00001", "?",
		"x.-00001.new", "?",
		"x.00000", "?",
		"x.000000", "?",
		"x.000000.new", "?",
		"x.0000001", "?",
		"x.0000001.new", "?",
		"x.000001", framed("a"),
		"x.000001-new", "?",
		"x.000001.000001", "?",
		"x.000001.000001.new", "?",
		"x.000001.new.000001", "?",
		"x.000001.new.new", "?",
		"x.000001new", "?",
		"x.00001", "?",
		"x.00001.new", "?",
		"x.00001a", "?",
		"x.1000000", "?",
		"x.1000001", "?",
		"x.1000001.new", "?",
		"x.99999999999999999999", "?",
		"x.new", "?",
		"x000001", "?",
		"y.000001", "?",
		"y.000001.new", "?",
	}
	d := lay(t, others...)
	l := open(t, d, 20)
	tells(t, "others", l, 1, []string{"a"})
	files(t, "others", d, others...)
	want(t, "others", []api.Errno{l.Roll(), l.Rewrite(1, nil), l.Drop(1)}, api.OK, api.OK, api.OK)
	for i := 0; i < len(others); i += 2 {
		b, err := d.Read(others[i])
		if mine := others[i] == "x.000001"; mine != (err == api.ErrNone) || !mine && string(b) != "?" {
			t.Errorf("%q: got %q, %d", others[i], b, err)
		}
	}
}

func TestOpenOfLogsBeside(t *testing.T) {
	d := disk.New(1000)
	var logs []*seglog.Log
	names := []string{"x", "", "x.000001", "x.new", "x.000001.new", "y"}
	for _, name := range names {
		l, err := seglog.Open(d, name, 20)
		if err != api.OK {
			t.Fatal(name, err)
		}
		logs = append(logs, l)
		fill(t, l, "of "+name, "and more", "at last")
	}
	for i, name := range names {
		l, err := seglog.Open(d, name, 20)
		if err != api.OK {
			t.Fatal(name, err)
		}
		for _, l := range []*seglog.Log{logs[i], l} {
			if got := slices.Concat(texts(l, 1), texts(l, 2), texts(l, 3)); !slices.Equal(got, []string{"of " + name, "and more", "at last"}) {
				t.Errorf("%q: %q", name, got)
			}
		}
	}
}

func TestOpenCutsTheLastSegment(t *testing.T) {
	for _, x := range []struct {
		file  string
		texts []string
	}{
		{"?", nil},
		{framed("abc")[:10], nil},
		{framed("abc") + "?", []string{"abc"}},
		{framed("abc", "", "d") + framed("torn")[:11], []string{"abc", "", "d"}},
		{framed("abc") + "\xff\xff\xff\xff\x00\x00\x00\x00", []string{"abc"}},
		{framed("abc") + "????????????" + framed("d"), []string{"abc"}},
	} {
		d := lay(t, "x.000003", framed("ahead"), "x.000004", x.file)
		l := open(t, d, 100)
		tells(t, "cut", l, 3, []string{"ahead"}, x.texts)
		files(t, "cut", d, "x.000003", framed("ahead"), "x.000004", framed(x.texts...))
		// All of it is safe.
		fail(t, d)
		d.Start(nil)
		files(t, "cut", d, "x.000003", framed("ahead"), "x.000004", framed(x.texts...))
		appends(t, "behind the cut", open(t, d, 100), []byte("e"), api.Place{Seg: 4, At: len(x.texts)}, api.OK)
		files(t, "cut", d, "x.000003", framed("ahead"), "x.000004", framed(append(x.texts, "e")...))
	}
}

// What is cut off counts for nothing: neither for Append's place nor for whether the segment is full.
func TestOpenCountsWhatIsLeft(t *testing.T) {
	d := lay(t, "x.000001", framed("abc")+strings.Repeat("?", 100))
	l := open(t, d, 12)
	if l.Full() {
		t.Error("full")
	}
	appends(t, "behind the cut", l, []byte("d"), api.Place{Seg: 1, At: 1}, api.OK)
	if !l.Full() {
		t.Error("not full")
	}
}

func TestOpenWithoutRoomToCut(t *testing.T) {
	torn := framed("abc", "d") + "?"
	for room := range 45 {
		d := lay(t, "x.000001", torn)
		d.Limit(room)
		// The old bytes and the new ones have to stand there together.
		if room < len(torn)+len(framed("abc", "d")) {
			refuses(t, "no room", d, "x", 20, api.ErrFull)
			files(t, "no room", d, "x.000001", torn)
			continue
		}
		tells(t, "room", open(t, d, 20), 1, []string{"abc", "d"})
	}
	d := lay(t, "x.000001", "no record")
	d.Limit(9)
	tells(t, "no records, no room", open(t, d, 20), 1, nil)
	files(t, "no records, no room", d, "x.000001", "")
}

func TestOpenTorn(t *testing.T) {
	for _, bad := range []string{"?", framed("abc")[:10], framed("abc") + "?", framed("abc") + "????????????" + framed("d")} {
		for _, pairs := range [][]string{
			{"x.000001", bad, "x.000002", ""},
			{"x.000001", bad, "x.000002", framed("e"), "x.000003", framed("f")},
			{"x.000001", framed("e"), "x.000002", bad, "x.000009", framed("f")},
			{"x.000001", bad, "x.000002", bad, "x.000003", framed("f")},
			{"x.000001", bad, "x.000002", framed("e") + "?"},
			{"x.000001", bad, "x.000002", framed("e"), "x.000002.new", "1"},
		} {
			d := lay(t, pairs...)
			refuses(t, "torn", d, "x", 20, api.ErrTorn)
			// An error changes nothing, so the next Open answers just the same.
			files(t, "torn", d, pairs...)
			refuses(t, "torn", d, "x", 20, api.ErrTorn)
		}
	}
}

func TestOpenDeletesNew(t *testing.T) {
	d := lay(t, "x.000001", framed("a"), "x.000001.new", framed("b"), "x.000002", framed("c"), "x.000003.new", "?", "x.999999.new", "")
	tells(t, "new", open(t, d, 20), 1, []string{"a"}, []string{"c"})
	files(t, "new", d, "x.000001", framed("a"), "x.000002", framed("c"))
	// A file .new alone is no segment.
	d = lay(t, "x.000007.new", framed("b"))
	tells(t, "new alone", open(t, d, 20), 1, nil)
	files(t, "new alone", d, "x.000001", "")
	// One that stands where the cut needs its own.
	d = lay(t, "x.000001", framed("a")+"?", "x.000001.new", framed("b"))
	tells(t, "new and cut", open(t, d, 20), 1, []string{"a"})
	files(t, "new and cut", d, "x.000001", framed("a"))
	// What it took is room for the cut.
	d = lay(t, "x.000001", framed("a")+"?", "x.000002.new", strings.Repeat("?", 500))
	d.Limit(10 + 9)
	tells(t, "new has room", open(t, d, 20), 1, []string{"a"})
}

// P3.2

func TestAppend(t *testing.T) {
	d, l := filled(t, 20)
	for i, x := range []struct {
		text string
		at   api.Place
	}{
		{"abc", api.Place{Seg: 1, At: 0}},
		{"", api.Place{Seg: 1, At: 1}},
		{"d", api.Place{Seg: 1, At: 2}},
		{"a long one, above the size of a segment", api.Place{Seg: 2, At: 0}},
		{"abc", api.Place{Seg: 3, At: 0}},
		{"1234", api.Place{Seg: 3, At: 1}},
		{"e", api.Place{Seg: 4, At: 0}},
	} {
		if at, err := l.Append([]byte(x.text)); at != x.at || err != api.OK {
			t.Errorf("%d: got %v, %d, want %v", i, at, err, x.at)
		}
	}
	tells(t, "append", l, 1, []string{"abc", "", "d"}, []string{"a long one, above the size of a segment"}, []string{"abc", "1234"}, []string{"e"})
	files(t, "append", d, "x.000001", framed("abc", "", "d"), "x.000002", framed("a long one, above the size of a segment"), "x.000003", framed("abc", "1234"), "x.000004", framed("e"))
}

func TestAppendAtTheSize(t *testing.T) {
	// 11 and 9 bytes: a segment of just size bytes is full, of one less it isn't.
	for _, x := range []struct{ size, seg, at int }{{19, 2, 0}, {20, 2, 0}, {21, 1, 2}, {1, 3, 0}, {11, 2, 1}, {12, 2, 0}, {math.MaxInt, 1, 2}} {
		_, l := filled(t, x.size, "abc", "d")
		appends(t, "at the size", l, []byte("e"), api.Place{Seg: x.seg, At: x.at}, api.OK)
	}
}

func TestAppendStandsInTheTail(t *testing.T) {
	d, l := filled(t, 100, "abc")
	want(t, "sync", []api.Errno{l.Sync()}, api.OK)
	fill(t, l, "d", "e")
	fail(t, d)
	d.Start(nil)
	files(t, "append", d, "x.000001", framed("abc"))
}

func TestAppendTooLong(t *testing.T) {
	d := disk.New(3 * longest)
	l := open(t, d, 20)
	fill(t, l, strings.Repeat("a", 12))
	for _, n := range []int{longest + 1, longest + 2, 1 << 24} {
		appends(t, "too long", l, make([]byte, n), api.Place{}, api.ErrLong)
	}
	// Not even the full segment was rolled.
	tells(t, "too long", l, 1, []string{strings.Repeat("a", 12)})
	appends(t, "as long as may be", l, make([]byte, longest), api.Place{Seg: 2}, api.OK)
	d.Limit(0)
	appends(t, "ahead of ErrFull", l, make([]byte, longest+1), api.Place{}, api.ErrLong)
}

func TestAppendWithoutRoom(t *testing.T) {
	for room := range 60 {
		d := disk.New(room)
		l := open(t, d, 20)
		var whole []string
		for _, s := range []string{"abc", "d", "12345678", "e", "f"} {
			before := append([]string(nil), d.Names()...)
			_, err := l.Append([]byte(s))
			if d.Used()+8+len(s) > room && err == api.ErrFull {
				// Nothing has changed: the full segment was not rolled either.
				if !slices.Equal(d.Names(), before) {
					t.Errorf("room %d: files: got %q, want %q", room, d.Names(), before)
				}
				continue
			}
			if err != api.OK || len(framed(append(whole, s)...)) > room {
				t.Errorf("room %d: Append of %q behind %q: got %d", room, s, whole, err)
			}
			whole = append(whole, s)
		}
		var got []string
		for _, seg := range l.Segments() {
			got = append(got, texts(l, seg)...)
		}
		if !slices.Equal(got, whole) || d.Used() != len(framed(whole...)) {
			t.Errorf("room %d: got %q, want %q", room, got, whole)
		}
	}
}

func TestAppendWithoutRoomBehindAFullSegment(t *testing.T) {
	d, l := filled(t, 20, "abc", "d")
	d.Limit(28)
	for range 2 {
		appends(t, "no room", l, []byte("e"), api.Place{}, api.ErrFull)
		tells(t, "no room", l, 1, []string{"abc", "d"})
		files(t, "no room", d, "x.000001", framed("abc", "d"))
		if !l.Full() {
			t.Error("not full")
		}
	}
	// A full disk is not the end of the log.
	appends(t, "room for less", l, nil, api.Place{Seg: 2}, api.OK)
	d.Limit(37)
	appends(t, "room again", l, []byte("e"), api.Place{Seg: 2, At: 1}, api.OK)
	tells(t, "room again", l, 1, []string{"abc", "d"}, []string{"", "e"})
}

// P3.3

func TestSync(t *testing.T) {
	d, l := filled(t, 20, "abc", "d", "e", "f")
	want(t, "sync", []api.Errno{l.Sync(), l.Sync()}, api.OK, api.OK)
	fill(t, l, "g")
	fail(t, d)
	d.Start(nil)
	// The first one was synced as it was rolled.
	files(t, "sync", d, "x.000001", framed("abc", "d"), "x.000002", framed("e", "f"))
}

func TestSyncOfTheLastAlone(t *testing.T) {
	d, l := filled(t, 20, "abc", "d", "e")
	// Unsynced bytes of a segment that isn't the last one: by another hand, as the log leaves none.
	want(t, "another hand", []api.Errno{d.Append("x.000001", []byte(framed("f"))), l.Sync()}, api.OK, api.OK)
	fail(t, d)
	d.Start(nil)
	files(t, "sync", d, "x.000001", framed("abc", "d"), "x.000002", framed("e"))
}

func TestSyncHadAnError(t *testing.T) {
	d, l := filled(t, 100, "abc")
	want(t, "the file is gone", []api.Errno{d.Delete("x.000001"), l.Sync()}, api.OK, api.ErrNone)
	dead(t, "behind an error of Sync", l)
	files(t, "behind an error of Sync", d)
	d, l = filled(t, 100, "abc")
	want(t, "the file is gone", []api.Errno{d.Delete("x.000001"), l.Roll()}, api.OK, api.ErrNone)
	dead(t, "behind an error of Roll's sync", l)
	files(t, "behind an error of Roll's sync", d)
}

// P3.4

func TestRoll(t *testing.T) {
	d, l := filled(t, 100, "abc")
	want(t, "roll", []api.Errno{l.Roll(), l.Roll()}, api.OK, api.OK)
	tells(t, "roll", l, 1, []string{"abc"}, nil, nil)
	appends(t, "the next one", l, []byte("d"), api.Place{Seg: 3}, api.OK)
	fail(t, d)
	d.Start(nil)
	files(t, "roll", d, "x.000001", framed("abc"), "x.000002", "", "x.000003", "")
}

func TestRollWithoutRoom(t *testing.T) {
	d, l := filled(t, 100, "abc")
	d.Limit(0)
	want(t, "roll", []api.Errno{l.Roll()}, api.OK)
	files(t, "roll", d, "x.000001", framed("abc"), "x.000002", "")
}

func TestLastNumber(t *testing.T) {
	d := lay(t, "x.000001", framed("a"), "x.999998", framed("b"))
	l := open(t, d, 20)
	want(t, "to the last number", []api.Errno{l.Roll(), l.Roll()}, api.OK, api.ErrLong)
	appends(t, "not full", l, []byte("abc"), api.Place{Seg: 999999}, api.OK)
	appends(t, "not full", l, []byte("abc"), api.Place{Seg: 999999, At: 1}, api.OK)
	appends(t, "full", l, []byte("abc"), api.Place{}, api.ErrLong)
	appends(t, "full, too long", l, make([]byte, longest+1), api.Place{}, api.ErrLong)
	d.Limit(0)
	appends(t, "full, ahead of ErrFull", l, []byte("abc"), api.Place{}, api.ErrLong)
	d.Limit(1000)
	want(t, "still alive", []api.Errno{l.Roll(), l.Sync(), l.Rewrite(999999, recs("d")), l.Drop(1), l.Drop(999999)}, api.ErrLong, api.OK, api.OK, api.OK, api.ErrRange)
	if !slices.Equal(l.Segments(), []int{999998, 999999}) {
		t.Error(l.Segments())
	}
	appends(t, "there is room once more", l, []byte("e"), api.Place{Seg: 999999, At: 1}, api.OK)
	files(t, "last number", d, "x.999998", framed("b"), "x.999999", framed("d", "e"))
	want(t, "opened again", []api.Errno{open(t, d, 20).Roll()}, api.ErrLong)
}

func TestRollChangesNothingAtTheLastNumber(t *testing.T) {
	d := lay(t, "x.999999", framed("a"))
	l := open(t, d, 100)
	fill(t, l, "b")
	want(t, "roll", []api.Errno{l.Roll()}, api.ErrLong)
	// Not even synced.
	fail(t, d)
	d.Start(nil)
	files(t, "roll", d, "x.999999", framed("a"))
}

// P3.5

func TestSegmentsRise(t *testing.T) {
	_, l := filled(t, 1, strings.Split(strings.Repeat("a,", 110), ",")[:110]...)
	var all []int
	for i := range 110 {
		all = append(all, i+1)
	}
	if got := l.Segments(); !slices.Equal(got, all) {
		t.Error(got)
	}
	for i := 2; i < 110; i += 2 {
		want(t, "drop", []api.Errno{l.Drop(i)}, api.OK)
		all = slices.DeleteFunc(all, func(n int) bool { return n == i })
	}
	if got := l.Segments(); !slices.Equal(got, all) {
		t.Error(got)
	}
}

func TestRecords(t *testing.T) {
	_, l := filled(t, 20, "c", "a", "", "b")
	tells(t, "in order", l, 1, []string{"c", "a", ""}, []string{"b"})
	for _, seg := range []int{math.MinInt, -1, 0, 3, 1000001, math.MaxInt} {
		if got := l.Records(seg); len(got) > 0 {
			t.Errorf("Records(%d): %q", seg, got)
		}
	}
	tells(t, "behind asking for none", l, 1, []string{"c", "a", ""}, []string{"b"})
}

func TestRecordsOfAnyBytes(t *testing.T) {
	b := make([]byte, 256)
	for i := range b {
		b[i] = byte(i)
	}
	d, l := filled(t, 1000, string(b), framed("a record", "in a record"), strings.Repeat("\x00", 40))
	for _, l := range []*seglog.Log{l, open(t, d, 1000)} {
		tells(t, "any bytes", l, 1, []string{string(b), framed("a record", "in a record"), strings.Repeat("\x00", 40)})
	}
}

// P3.6

func TestRewrite(t *testing.T) {
	for _, to := range [][]string{nil, {""}, {"q"}, {"abc", "d"}, {"many", "", "more", "than", "there", "were"}} {
		d, l := filled(t, 20, "abc", "d", "e", "f", "g")
		want(t, "rewrite", []api.Errno{l.Rewrite(1, recs(to...))}, api.OK)
		tells(t, "rewrite", l, 1, to, []string{"e", "f", "g"})
		files(t, "rewrite", d, "x.000001", framed(to...), "x.000002", framed("e", "f", "g"))
		fail(t, d)
		d.Start(nil)
		files(t, "rewrite", d, "x.000001", framed(to...), "x.000002", "")
	}
}

func TestRewriteTheLast(t *testing.T) {
	d, l := filled(t, 20, "abc", "d", "e", "f", "g")
	if !l.Full() {
		t.Error("not full")
	}
	want(t, "rewrite", []api.Errno{l.Rewrite(2, recs("q", ""))}, api.OK)
	if l.Full() {
		t.Error("full")
	}
	appends(t, "behind the new ones", l, []byte("h"), api.Place{Seg: 2, At: 2}, api.OK)
	files(t, "rewrite", d, "x.000001", framed("abc", "d"), "x.000002", framed("q", "", "h"))
	want(t, "rewrite", []api.Errno{l.Rewrite(2, nil)}, api.OK)
	appends(t, "the first one", l, []byte("i"), api.Place{Seg: 2}, api.OK)
	want(t, "rewrite", []api.Errno{l.Rewrite(2, recs("123456789012"))}, api.OK)
	if !l.Full() {
		t.Error("not full")
	}
	appends(t, "full by it", l, []byte("j"), api.Place{Seg: 3}, api.OK)
}

func TestRewriteNone(t *testing.T) {
	d, l := filled(t, 20, "abc", "d", "e")
	for _, seg := range []int{math.MinInt, -1, 0, 3, 1000001, math.MaxInt} {
		want(t, "none", []api.Errno{l.Rewrite(seg, recs("q")), l.Rewrite(seg, [][]byte{make([]byte, longest+1)})}, api.ErrNone, api.ErrNone)
	}
	files(t, "none", d, "x.000001", framed("abc", "d"), "x.000002", framed("e"))
}

func TestRewriteTooLong(t *testing.T) {
	d, l := filled(t, 20, "abc", "d", "e")
	for _, bad := range [][][]byte{{make([]byte, longest+1)}, {[]byte("q"), make([]byte, longest+1)}} {
		want(t, "too long", []api.Errno{l.Rewrite(1, bad), l.Rewrite(2, bad)}, api.ErrLong, api.ErrLong)
	}
	tells(t, "too long", l, 1, []string{"abc", "d"}, []string{"e"})
	files(t, "too long", d, "x.000001", framed("abc", "d"), "x.000002", framed("e"))
	want(t, "still alive", []api.Errno{l.Sync()}, api.OK)
}

func TestRewriteWithoutRoom(t *testing.T) {
	for _, seg := range []int{1, 2} {
		for room := range 60 {
			d, l := filled(t, 20, "abc", "d", "e")
			d.Limit(room)
			// The old bytes and the new ones have to stand there together.
			if room < 29+18 {
				want(t, "no room", []api.Errno{l.Rewrite(seg, recs("q", "r"))}, api.ErrFull)
				tells(t, "no room", l, 1, []string{"abc", "d"}, []string{"e"})
				files(t, "no room", d, "x.000001", framed("abc", "d"), "x.000002", framed("e"))
			} else {
				want(t, "room", []api.Errno{l.Rewrite(seg, recs("q", "r"))}, api.OK)
			}
			d.Limit(1000)
			want(t, "still alive", []api.Errno{l.Rewrite(seg, nil)}, api.OK)
		}
	}
}

func TestRewriteWithNewThere(t *testing.T) {
	d, l := filled(t, 20, "abc")
	want(t, "another hand", []api.Errno{d.Append("x.000001.new", []byte("????")), l.Rewrite(1, recs("q"))}, api.OK, api.OK)
	files(t, "new there", d, "x.000001", framed("q"))
}

// P3.7

func TestDrop(t *testing.T) {
	d, l := filled(t, 20, "abc", "d", "e", "f", "g", "h")
	want(t, "drop", []api.Errno{l.Drop(2), l.Drop(2), l.Rewrite(2, nil)}, api.OK, api.ErrNone, api.ErrNone)
	if !slices.Equal(l.Segments(), []int{1, 3}) || len(l.Records(2)) > 0 {
		t.Error(l.Segments(), l.Records(2))
	}
	files(t, "drop", d, "x.000001", framed("abc", "d"), "x.000003", framed("h"))
	want(t, "drop", []api.Errno{l.Drop(1)}, api.OK)
	tells(t, "drop", l, 3, []string{"h"})
	tells(t, "opened again", open(t, d, 20), 3, []string{"h"})
	appends(t, "drop", l, []byte("i"), api.Place{Seg: 3, At: 1}, api.OK)
	files(t, "drop", d, "x.000003", framed("h", "i"))
}

func TestDropRefuses(t *testing.T) {
	d, l := filled(t, 20, "abc", "d", "e")
	for _, seg := range []int{math.MinInt, -1, 0, 3, 1000001, math.MaxInt} {
		want(t, "none", []api.Errno{l.Drop(seg)}, api.ErrNone)
	}
	want(t, "the last one", []api.Errno{l.Drop(2), l.Drop(1), l.Drop(2)}, api.ErrRange, api.OK, api.ErrRange)
	tells(t, "the last one", l, 2, []string{"e"})
	want(t, "once it isn't", []api.Errno{l.Roll(), l.Drop(2)}, api.OK, api.OK)
	tells(t, "once it isn't", l, 3, nil)
	files(t, "once it isn't", d, "x.000003", "")
}

// P3.8

func TestFull(t *testing.T) {
	d, l := filled(t, 20)
	for _, x := range []struct {
		text string
		full bool
	}{{"abc", false}, {"", false}, {"d", true}, {"abc", false}, {"d", true}, {"123456789012", true}, {"12345678901", false}} {
		fill(t, l, x.text)
		if l.Full() != x.full || open(t, d, 20).Full() != x.full {
			t.Errorf("behind %q: got %v", x.text, l.Full())
		}
	}
	fill(t, l, "")
	if !l.Full() || l.Roll() != api.OK || l.Full() {
		t.Error("rolled")
	}
}

func TestFile(t *testing.T) {
	for _, x := range []struct {
		name string
		seg  int
		file string
	}{
		{"arch", 7, "arch.000007"},
		{"x", 1, "x.000001"},
		{"x", 10, "x.000010"},
		{"queue", 123456, "queue.123456"},
		{"x", 999999, "x.999999"},
		{"", 20, ".000020"},
		{"a.b", 300, "a.b.000300"},
		{"x.000001", 4000, "x.000001.004000"},
		{"no Name", 50000, "no Name.050000"},
		{"x", 0, "x.000000"},
	} {
		if got := seglog.File(x.name, x.seg); got != x.file {
			t.Errorf("File(%q, %d): got %q, want %q", x.name, x.seg, got, x.file)
		}
	}
	// Six digits, also of what is no segment's number.
	for _, seg := range []int{math.MinInt, -1000001, -1, 1000000, 1234567, math.MaxInt} {
		got, ok := strings.CutPrefix(seglog.File("x", seg), "x.")
		if !ok || len(got) != 6 || strings.Trim(got, "0123456789") != "" {
			t.Errorf("File(x, %d): got %q", seg, got)
		}
	}
}

// What a nil log and one that is dead answer.

func TestNoLog(t *testing.T) {
	dead(t, "nil", nil)
	dead(t, "nobody made it", new(seglog.Log))
	// Each call as the first one: so none is dead only by the one ahead.
	made := func() *seglog.Log { return new(seglog.Log) }
	appends(t, "nobody made it", made(), tooLong, api.Place{}, api.ErrDead)
	want(t, "nobody made it", []api.Errno{made().Sync(), made().Roll(), made().Rewrite(1, nil), made().Rewrite(0, [][]byte{tooLong}), made().Drop(0)}, each(api.ErrDead, 5)...)
	if made().Full() || len(made().Segments()) > 0 || len(made().Records(0)) > 0 {
		t.Error("something is there")
	}
}

// each is that error, so many times.
func each(err api.Errno, n int) []api.Errno { return slices.Repeat([]api.Errno{err}, n) }

func TestDeadForGood(t *testing.T) {
	d, l := filled(t, 20, "abc", "d", "e")
	d.Arm(1)
	want(t, "sync", []api.Errno{l.Sync()}, api.ErrDead)
	dead(t, "without power", l)
	d.Start([]int{100})
	dead(t, "with power again", l)
	files(t, "with power again", d, "x.000001", framed("abc", "d"), "x.000002", framed("e"))
	tells(t, "opened again", open(t, d, 20), 1, []string{"abc", "d"}, []string{"e"})
}

// The power fails behind the log's back, in a change that isn't its own: each call then meets a disk that is down.
func TestMeetsADiskThatIsDown(t *testing.T) {
	for what, call := range map[string]func(l *seglog.Log) bool{
		"Append":   func(l *seglog.Log) bool { _, err := l.Append([]byte("f")); return err == api.ErrDead },
		"Sync":     func(l *seglog.Log) bool { return l.Sync() == api.ErrDead },
		"Roll":     func(l *seglog.Log) bool { return l.Roll() == api.ErrDead },
		"Segments": func(l *seglog.Log) bool { return len(l.Segments()) == 0 },
		"Records":  func(l *seglog.Log) bool { return len(l.Records(1)) == 0 },
		"Rewrite":  func(l *seglog.Log) bool { return l.Rewrite(1, nil) == api.ErrDead },
		"Drop":     func(l *seglog.Log) bool { return l.Drop(1) == api.ErrDead },
		"Full":     func(l *seglog.Log) bool { return !l.Full() },
	} {
		for _, texts := range [][]string{{"abc", "d", "e"}, {"abc", "d", "abc", "d"}} {
			d, l := filled(t, 20, texts...)
			fail(t, d)
			if !call(l) {
				t.Errorf("%s on a disk that is down", what)
			}
			d.Start([]int{100})
			dead(t, what, l)
		}
	}
}

// The errors that are named ahead of the disk's are answered of a disk that is down, too.
func TestErrorsAheadOfTheDisks(t *testing.T) {
	d := lay(t, "x.000001", framed("a"), "x.999999", framed("123456789012"))
	l := open(t, d, 20)
	fail(t, d)
	long := make([]byte, longest+1)
	appends(t, "frame.Put's", l, long, api.Place{}, api.ErrLong)
	appends(t, "Roll's", l, nil, api.Place{}, api.ErrLong)
	want(t, "ahead", []api.Errno{l.Roll(), l.Rewrite(9, nil), l.Rewrite(1, [][]byte{long}), l.Drop(9), l.Drop(999999)}, api.ErrLong, api.ErrNone, api.ErrLong, api.ErrNone, api.ErrRange)
	want(t, "the disk's", []api.Errno{l.Drop(1)}, api.ErrDead)
	dead(t, "ahead", l)
}

// P2

func TestNothingIsShared(t *testing.T) {
	d, l := filled(t, 20)
	rec := append(make([]byte, 0, 100), "abc"...)
	appends(t, "append", l, rec, api.Place{Seg: 1}, api.OK)
	rec[0] = 'x'
	fill(t, l, "d", "e")
	list := recs("q", "r")
	want(t, "rewrite", []api.Errno{l.Rewrite(2, list)}, api.OK)
	list[0][0] = 'x'
	list[1] = nil
	tells(t, "arguments", l, 1, []string{"abc", "d"}, []string{"q", "r"})
	one, two := l.Records(1), l.Records(1)
	one[0][0] = 'x'
	_ = append(one[0][:3], "yyyyyyyyyyyyyyyy"...)
	one[1] = nil
	if string(two[0]) != "abc" || string(two[1]) != "d" || string(one[0]) != "xbc" {
		t.Errorf("answers: %q, %q", one, two)
	}
	segs := l.Segments()
	segs[0] = 9
	tells(t, "answers", l, 1, []string{"abc", "d"}, []string{"q", "r"})
	files(t, "answers", d, "x.000001", framed("abc", "d"), "x.000002", framed("q", "r"))
}

func TestNothingGivenIsChanged(t *testing.T) {
	_, l := filled(t, 100)
	rec := []byte("12345678")
	appends(t, "what lies behind the length", l, rec[:3], api.Place{Seg: 1}, api.OK)
	list := [][]byte{rec[:2], rec[2:4], make([]byte, longest+1)}
	want(t, "what lies behind the length", []api.Errno{l.Roll(), l.Rewrite(1, list[:2])}, api.OK, api.OK)
	tells(t, "what lies behind the length", l, 1, []string{"12", "34"}, nil)
	if string(rec) != "12345678" || len(list[2]) != longest+1 || len(list) != 3 {
		t.Errorf("given: %q, %q", rec, list[:2])
	}
}
