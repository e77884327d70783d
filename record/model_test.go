package record_test

import (
	"encoding/binary"
	"math"
	"math/rand/v2"
	"regexp"
	"slices"
	"strconv"
	"strings"
	"testing"
	"unsafe"

	"scriptorium/api"
	"scriptorium/entry"
	"scriptorium/path"
	"scriptorium/record"
)

// What a hold's name is, and what a hold's and a lift's bytes look like (lengths are counted beside it): what the calls are held against.
var (
	aName = regexp.MustCompile(`\A[a-z0-9-]{1,30}\z`)
	aHold = regexp.MustCompile(`\A\x04([1-9][0-9]?):([a-z0-9-]{1,30}),(0|[1-9][0-9]{0,2}):([^,]*),\z`)
	aLift = regexp.MustCompile(`\A\x05([1-9][0-9]?):([a-z0-9-]{1,30}),\z`)
)

// may is what the chapter says of a record, over again.
func may(r api.Record) bool {
	switch r.Kind {
	case 1:
		_, err := entry.Encode(r.Msg)
		return err == api.OK
	case 2:
		return r.Purged.ID >= 1 && r.Purged.ID <= 1<<40 && r.Purged.At >= 0
	case 3:
		return r.Seal.Seg >= 1 && r.Seal.Seg <= 999_999 && r.Seal.Count >= 0 && r.Seal.Count < 1<<32
	case 4:
		return aName.MatchString(r.Hold.Name) && (r.Hold.Who == "" || path.Mailbox(r.Hold.Who))
	case 5:
		return aName.MatchString(r.Hold.Name)
	}
	return false
}

// counted is whether those digits tell how many bytes part has.
func counted(digits, part string) bool { return digits == strconv.Itoa(len(part)) }

// found is what the chapter says of Decode, over again: by what the bytes look like.
func found(s string) (api.Record, bool) {
	if s == "" {
		return api.Record{}, false
	}
	rest := s[1:]
	switch {
	case s[0] == 1:
		m, err := entry.Decode([]byte(rest))
		return of(m), err == api.OK
	case s[0] == 2 && len(rest) == 48:
		id, at := binary.BigEndian.Uint64([]byte(rest)), binary.BigEndian.Uint64([]byte(rest[8:]))
		return purged(int64(id), int64(at), sum(rest[16:])), id >= 1 && id <= 1<<40 && at < 1<<63
	case s[0] == 3 && len(rest) == 72:
		seg, count := binary.BigEndian.Uint32([]byte(rest)), binary.BigEndian.Uint32([]byte(rest[4:]))
		return sealed(int(seg), int(count), [32]byte([]byte(rest[8:40])), [32]byte([]byte(rest[40:]))), seg >= 1 && seg <= 999_999
	}
	if p := aHold.FindStringSubmatch(s); p != nil {
		return held(p[2], p[4]), counted(p[1], p[2]) && counted(p[3], p[4]) && (p[4] == "" || path.Mailbox(p[4]))
	}
	if p := aLift.FindStringSubmatch(s); p != nil {
		return lifted(p[2]), counted(p[1], p[2])
	}
	return api.Record{}, false
}

// holds fails the test unless the calls answer of s what the chapter says.
func holds(t *testing.T, s string) {
	t.Helper()
	if r, ok := found(s); ok {
		decodes(t, "a model", s, r)
	} else {
		decodesNone(t, "a model", s)
	}
}

// holdsOf fails the test unless the calls answer of r what the chapter says.
func holdsOf(t *testing.T, r api.Record) {
	t.Helper()
	switch {
	case may(r):
		encodes(t, "a model", r)
	case r.Kind == 1:
		refuses(t, "a model", r, api.ErrEntry)
	default:
		refuses(t, "a model", r, api.ErrRecord)
	}
}

// drawn is one of those, by lot, the same in each run.
func drawn[T any](r *rand.Rand, from []T) T { return from[r.IntN(len(from))] }

// drawnOf is n of those pieces, one behind the other.
func drawnOf(r *rand.Rand, from []string, n int) string {
	var s strings.Builder
	for range n {
		s.WriteString(drawn(r, from))
	}
	return s.String()
}

// What records are put together from.
var (
	kinds  = []string{"\x01", "\x02", "\x03", "\x04", "\x05", "\x00", "\x06", "1", "\xff"}
	pieces = []string{"0:,", "1:a,", "6:case-1,", "3:a@b,", "1:7,", "1:A,", "0", "1", ":", ",", "a", "1:7,1:a,0:,1:0,1:1,3:a@b,1:x,"}
	words  = []string{"\x00\x00\x00\x00", "\x00\x00\x00\x01", "\x00\x00\x01\x00", "\x00\x0f\x42\x3f", "\x00\x0f\x42\x40", "\x80\x00\x00\x00", "\xff\xff\xff\xff", "\x7f\xff\xff\xff", "r###", "\x00"}
)

// anyRecord is one that looks drawn by lot: often one that may be, with what other kinds have.
func anyRecord(r *rand.Rand) api.Record {
	names, whose := goodNames, append(somebodys, "")
	ids, times, segs, counts := goodIDs, goodTimes, goodSegs, goodCounts
	if r.IntN(3) == 0 {
		names, whose = append(names, badNames[:24]...), append(whose, nobodys[:30]...)
		ids, times, segs, counts = append(ids, badIDs...), append(times, badTimes...), append(segs, badSegs...), append(counts, badCounts...)
	}
	rec := sealed(drawn(r, segs), drawn(r, counts), drawn(r, sums()), drawn(r, sums()))
	rec.Purged = api.Purged{ID: drawn(r, ids), Leaf: drawn(r, sums()), At: drawn(r, times)}
	rec.Hold = api.Hold{Name: drawn(r, names), Who: drawn(r, whose)}
	rec.Msg = api.Message{ID: drawn(r, ids), Class: drawn(r, []string{"a", "legal"}), Env: api.Envelope{From: drawn(r, whose), To: many(1 + r.IntN(3)), At: drawn(r, times)}, Body: []byte(drawnOf(r, pieces, r.IntN(4)))}
	rec.Kind = 1 + r.IntN(5)
	if r.IntN(20) == 0 {
		rec.Kind = r.IntN(600) - 300
	}
	return rec
}

// P1: any bytes.
func TestAnyBytes(t *testing.T) {
	r := rand.New(rand.NewPCG(16, 1))
	var bytes []string
	for c := range 256 {
		bytes = append(bytes, one(c))
	}
	for _, from := range [][]string{pieces, pieces[:5], words, bytes, append(slices.Repeat(pieces, 10), bytes...)} {
		for range 700 {
			holds(t, drawn(r, kinds)+drawnOf(r, from, r.IntN(8)))
			holds(t, drawnOf(r, from, r.IntN(8)))
		}
		for range 10 {
			holds(t, drawn(r, kinds)+drawnOf(r, from, 100+r.IntN(1000)))
		}
	}
	good := 0
	for range 2000 {
		purge, seal := "\x02"+drawnOf(r, words[:9], 12), "\x03"+drawnOf(r, words[:9], 18)
		holds(t, purge)
		holds(t, seal)
		if _, ok := found(seal); ok {
			good++
		}
	}
	if good < 300 || good > 1700 {
		t.Errorf("of the bytes %d are seals", good)
	}
}

// Each short text of a kind and parts.
func TestAllShortTexts(t *testing.T) {
	var grow func(s string, n int, from []string)
	grow = func(s string, n int, from []string) {
		holds(t, s)
		for _, p := range from {
			if n > 0 {
				grow(s+p, n-1, from)
			}
		}
	}
	for _, kind := range kinds[:6] {
		grow(kind, 4, []string{"0:,", "1:a,", "3:a@b,", "1:7,", "1:A,"})
		grow(kind, 4, []string{"0", "1", ":", ",", "a"})
	}
}

// P1: any records.
func TestAnyRecords(t *testing.T) {
	r := rand.New(rand.NewPCG(16, 2))
	good := 0
	for range 5000 {
		rec := anyRecord(r)
		holdsOf(t, rec)
		if may(rec) {
			good++
		}
	}
	if good < 2500 || good > 4700 {
		t.Errorf("of the records %d may be", good)
	}
}

// What a change makes of a record's bytes is another one's, or nobody's.
func TestAnyChange(t *testing.T) {
	r := rand.New(rand.NewPCG(16, 3))
	for range 1500 {
		s := laid(anyRecord(r))
		at := r.IntN(len(s))
		holds(t, s[:at]+drawn(r, kinds)+s[at+1:])
		holds(t, s[:at]+drawn(r, pieces)+s[at:])
		holds(t, s[:at]+s[at+r.IntN(len(s)-at):])
		holds(t, s[:at]+laid(anyRecord(r)))
	}
}

// P1: very long bytes.
func TestLongBytes(t *testing.T) {
	const n = 1 << 20
	for _, s := range []string{"x", "\x00", "1", "0:,", "1:a,", ","} {
		long := strings.Repeat(s, n/len(s))
		if b, err := record.Decode([]byte(long)); err != api.ErrRecord || !alike(b, api.Record{}) {
			t.Errorf("%s again and again: got %s, %d", short(s), told(b), err)
		}
		for _, kind := range kinds[:5] {
			if b, err := record.Purge([]byte(kind+long), 0); err != api.ErrRecord || len(b) != 0 {
				t.Errorf("%s again and again behind %q: got %x, %d", short(s), kind, b, err)
			}
		}
	}
}

func FuzzAnyBytes(f *testing.F) {
	for i, r := range often() {
		f.Add(laid(r), i, int64(i), int64(-i), "case-1", "a@b")
	}
	f.Fuzz(func(t *testing.T, s string, kind int, id, at int64, name, who string) {
		holds(t, s)
		holds(t, one(kind)+s)
		holds(t, "\x04"+put(name, who))
		leaf := sum(name)
		for _, k := range []int{kind, 1 + int(uint(kind)%5)} {
			holdsOf(t, api.Record{Kind: k, Msg: api.Message{ID: id, Class: name, Env: api.Envelope{From: who, To: []string{"a@b", who}, At: at}, Body: []byte(s)}, Purged: api.Purged{ID: id, Leaf: leaf, At: at}, Seal: api.Seal{Seg: int(id), Count: int(at), Root: leaf}, Hold: api.Hold{Name: name, Who: who}})
		}
	})
}

// P2

// roomy is s with room behind its length, in which that stands.
func roomy(s, behind string) []byte { return []byte(s + behind)[:len(s)] }

// whole is all of b, up to the end of its room.
func whole(b []byte) string { return string(b[:cap(b)]) }

// fill writes over all of b, and over what lies behind its length.
func fill(b []byte) {
	for i := range b[:cap(b)] {
		b[:cap(b)][i] = '!'
	}
}

// given are bytes of each kind, and of none.
func given() []string {
	l := []string{"", "x", "\x00", "\x01", "\x02", "\x06", "\x02" + eight(7) + eight(0), "\x046:case-1", "\x046:case-1,", "\x056:case-1,0:,"}
	for _, r := range often() {
		s := laid(r)
		l = append(l, s, s[:len(s)-1], s+"x")
	}
	return l
}

// What stands behind the bytes that are given would end them, or go on with them.
var behindAll = []string{",", "0:,", "1:a,", "#", "behind all", strings.Repeat("#", 100)}

func TestBytesAreLeft(t *testing.T) {
	for _, s := range given() {
		for _, behind := range behindAll {
			b := roomy(s, behind)
			was := whole(b)
			want, ok := found(s)
			r, err := record.Decode(b)
			if got := err == api.OK; got != ok || ok && !alike(r, want) {
				t.Errorf("Decode(%s) with %s behind: got %s, %d", short(s), short(behind), told(r), err)
			}
			leaf, id := record.Leaf(b), record.ID(b)
			left, err := record.Purge(b, 5)
			if got := err == api.OK; got != (ok && want.Kind == 1) {
				t.Errorf("Purge(%s) with %s behind: got %x, %d", short(s), short(behind), left, err)
			}
			exact := slices.Clip([]byte(s))
			if leaf != record.Leaf(exact) || id != record.ID(exact) {
				t.Errorf("%s with %s behind: got %x, %d", short(s), short(behind), leaf, id)
			}
			again, _ := record.Encode(r)
			for _, answer := range [][]byte{left, again, r.Msg.Body} {
				fill(answer)
			}
			clear(r.Msg.Env.To[:cap(r.Msg.Env.To)])
			if whole(b) != was {
				t.Errorf("%s with %s behind was changed: %s", short(s), short(behind), short(whole(b)))
			}
		}
	}
}

// A record's lists are left, too, with what lies behind their lengths.
func TestRecordsAreLeft(t *testing.T) {
	for _, behind := range behindAll {
		m := ordinary()
		m.Body = roomy("Hi\r\n", behind)
		to := []string{"c@d", "e.f@g.org", behind, "a"}
		m.Env.To = to[:2]
		was := whole(m.Body)
		r := of(m)
		b, err := record.Encode(r)
		if want := "\x01" + put("7", "legal", "a.b@x.org", "1234567890", "2", "c@d", "e.f@g.org", "Hi\r\n"); err != api.OK || string(b) != want {
			t.Errorf("with %s behind: got %s, %d", short(behind), short(string(b)), err)
		}
		fill(b)
		if whole(m.Body) != was || !slices.Equal(to, []string{"c@d", "e.f@g.org", behind, "a"}) {
			t.Errorf("with %s behind was changed: %s, %q", short(behind), short(whole(m.Body)), to)
		}
	}
}

// What was answered stays, whatever becomes of the memory in which the arguments stood.
func TestAnswersShareNothingWithArguments(t *testing.T) {
	for _, s := range given() {
		b := []byte(s)
		r, _ := record.Decode(b)
		left, _ := record.Purge(b, 5)
		was := string(left)
		fill(b)
		if want, ok := found(s); ok && !alike(r, want) {
			t.Errorf("%s: Decode shares memory with it: got %s", short(s), told(r))
		}
		if string(left) != was {
			t.Errorf("%s: Purge shares memory with it: got %x", short(s), left)
		}
	}
	m := ordinary()
	b, _ := record.Encode(of(m))
	fill(m.Body)
	clear(m.Env.To)
	if string(b) != laid(each()[0]) {
		t.Errorf("Encode shares memory with it: got %s", short(string(b)))
	}
}

// overlap is whether two lists share memory, that behind their lengths with it.
func overlap(a, b []byte) bool {
	if cap(a) == 0 || cap(b) == 0 {
		return false
	}
	x, y := uintptr(unsafe.Pointer(unsafe.SliceData(a))), uintptr(unsafe.Pointer(unsafe.SliceData(b)))
	return x < y+uintptr(cap(b)) && y < x+uintptr(cap(a))
}

// bytesOf is a text's own memory. A text of one byte is one that the language keeps for all.
func bytesOf(s string) []byte {
	if len(s) < 2 {
		return nil
	}
	return unsafe.Slice(unsafe.StringData(s), len(s))
}

// memory is all in which a record's bytes and texts stand.
func memory(r api.Record) [][]byte {
	all := [][]byte{r.Msg.Body, bytesOf(r.Msg.Class), bytesOf(r.Msg.Env.From), bytesOf(r.Hold.Name), bytesOf(r.Hold.Who)}
	for _, to := range r.Msg.Env.To {
		all = append(all, bytesOf(to))
	}
	return all
}

// answers are all bytes that the calls answer of b.
func answers(b []byte) [][]byte {
	r, _ := record.Decode(b)
	again, _ := record.Encode(r)
	left, _ := record.Purge(b, 5)
	gone, _ := record.Decode(left)
	return append(append([][]byte{again, left}, memory(r)...), memory(gone)...)
}

func TestAnswersShareNothingWithEachOther(t *testing.T) {
	for _, s := range given() {
		b := roomy(s, "behind all")
		all := append(answers(b), answers(b)...)
		for i, x := range all {
			if overlap(x, b) {
				t.Errorf("%s: answer %d shares memory with it", short(s), i)
			}
			for j, y := range all[:i] {
				if overlap(x, y) {
					t.Errorf("%s: answers %d and %d share memory", short(s), i, j)
				}
			}
		}
	}
	for _, r := range each() {
		b, _ := record.Encode(r)
		c, _ := record.Encode(r)
		if overlap(b, c) {
			t.Errorf("%s: its bytes share memory", told(r))
		}
		for i, x := range memory(r) {
			if overlap(b, x) {
				t.Errorf("%s: its bytes share memory with field %d", told(r), i)
			}
		}
	}
}

// What is laid over one answer's recipients is seen in no other.
func TestRecipientsStandInListsOfTheirOwn(t *testing.T) {
	s := laid(each()[0])
	r, _ := record.Decode([]byte(s))
	n, _ := record.Decode([]byte(s))
	for i := range r.Msg.Env.To[:cap(r.Msg.Env.To)] {
		r.Msg.Env.To[:cap(r.Msg.Env.To)][i] = "!"
	}
	if !alike(n, each()[0]) {
		t.Errorf("the recipients share memory: got %s", told(n))
	}
	decodes(t, "the same as ever", s, each()[0])
}

// What lies behind a list's length is no part of it, though it would end it.
func TestWhatLiesBehindIsNotRead(t *testing.T) {
	for _, rec := range often() {
		b := []byte(laid(rec) + ",0:,")
		for n := range len(b) + 1 {
			want, ok := found(string(b[:n]))
			r, err := record.Decode(b[:n])
			if got := err == api.OK; got != ok || ok && !alike(r, want) {
				t.Errorf("Decode(%s): got %s, %d", short(string(b[:n])), told(r), err)
			}
			if got := record.Leaf(b[:n]); (!ok || want.Kind != 2) && got != leafOf(string(b[:n])) {
				t.Errorf("Leaf(%s): got %x", short(string(b[:n])), got)
			}
		}
	}
}

// P3

func TestNilIsNothing(t *testing.T) {
	for _, b := range [][]byte{nil, {}, []byte(laid(each()[1]))[:0], make([]byte, 0, 100)} {
		if r, err := record.Decode(b); err != api.ErrRecord || !alike(r, api.Record{}) {
			t.Errorf("%#v: Decode: got %s, %d", b, told(r), err)
		}
		if p, err := record.Purge(b, 0); err != api.ErrRecord || len(p) != 0 {
			t.Errorf("%#v: Purge: got %x, %d", b, p, err)
		}
		if record.Leaf(b) != leafOf("") || record.ID(b) != 0 {
			t.Errorf("%#v: got %x, %d", b, record.Leaf(b), record.ID(b))
		}
		encodes(t, "nothing as a body", with(func(m *api.Message) { m.Body = b }))
	}
	for _, to := range [][]string{nil, {}, many(3)[:0], make([]string, 0, 3)} {
		encodesNone(t, "no recipients", with(func(m *api.Message) { m.Env.To = to }), api.ErrEntry)
	}
}

// What a call answers doesn't hang on those ahead, nor on what became of their answers.
func TestAnswersHangOnArgumentsAlone(t *testing.T) {
	r := rand.New(rand.NewPCG(16, 4))
	for range 200 {
		for _, answer := range answers([]byte(drawn(r, given()))) {
			if unsafe.SliceData(answer) != nil && cap(answer) > len(answer) {
				clear(answer[len(answer):cap(answer)])
			}
		}
		holdsOf(t, anyRecord(r))
		for _, rec := range each() {
			encodes(t, "the same as ever", rec)
		}
		refuses(t, "the same as ever", purged(0, 0, [32]byte{}), api.ErrRecord)
		refuses(t, "the same as ever", of(api.Message{}), api.ErrEntry)
		decodesNone(t, "the same as ever", "\x056:case-1,0:,")
	}
	var last [32]byte
	for i := range 5 {
		leaf := record.Leaf([]byte(laid(sealed(1, math.MaxUint32, last, last))))
		if i > 0 && leaf == last {
			t.Errorf("a leaf came again")
		}
		last = leaf
	}
}
