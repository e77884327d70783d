package record_test

import (
	"crypto/sha256"
	"encoding/binary"
	"encoding/hex"
	"math"
	"slices"
	"strconv"
	"strings"
	"testing"

	"scriptorium/api"
	"scriptorium/record"
)

// short is s as a test tells it.
func short(s string) string {
	if len(s) > 300 {
		return strconv.Quote(s[:200]) + " .. " + strconv.Quote(s[len(s)-50:]) + " (" + strconv.Itoa(len(s)) + " bytes)"
	}
	return strconv.Quote(s)
}

// one is the text of one byte.
func one(c int) string { return string([]byte{byte(c)}) }

// put is what layer 15 says of its Put, over again.
func put(l ...string) string {
	var b strings.Builder
	for _, s := range l {
		b.WriteString(strconv.Itoa(len(s)) + ":" + s + ",")
	}
	return b.String()
}

// eight is a number in eight bytes, four is one in four, the highest ahead.
func eight(n int64) string { return string(binary.BigEndian.AppendUint64(nil, uint64(n))) }

func four(n int) string { return string(binary.BigEndian.AppendUint32(nil, uint32(n))) }

// sum is one that begins so.
func sum(s string) [32]byte { return [32]byte([]byte(s + strings.Repeat("#", 32))) }

// leafOf is the leaf of s, by the library.
func leafOf(s string) [32]byte { return sha256.Sum256([]byte("\x00" + s)) }

// of is the record of that message, as those below are of what the other kinds have.
func of(m api.Message) api.Record { return api.Record{Kind: api.RecMessage, Msg: m} }

func purged(id, at int64, leaf [32]byte) api.Record {
	return api.Record{Kind: api.RecPurged, Purged: api.Purged{ID: id, Leaf: leaf, At: at}}
}

func sealed(seg, count int, root, prev [32]byte) api.Record {
	return api.Record{Kind: api.RecSeal, Seal: api.Seal{Seg: seg, Count: count, Root: root, Prev: prev}}
}

func held(name, who string) api.Record {
	return api.Record{Kind: api.RecHold, Hold: api.Hold{Name: name, Who: who}}
}

func lifted(name string) api.Record {
	return api.Record{Kind: api.RecLift, Hold: api.Hold{Name: name}}
}

// ordinary is a message on which most tests stand.
func ordinary() api.Message {
	return api.Message{ID: 7, Class: "legal", Env: api.Envelope{From: "a.b@x.org", To: []string{"c@d", "e.f@g.org"}, At: 1234567890}, Body: []byte("Subject: x\r\n\r\nHi\r\n")}
}

// each is an ordinary record of each kind.
func each() []api.Record {
	return []api.Record{of(ordinary()), purged(7, 1234567890, sum("leaf")), sealed(3, 1000, sum("root"), sum("prev")), held("case-1", "a.b@x.org"), lifted("case-1")}
}

// texts are those of m's parts, whether it may be or not.
func texts(m api.Message) []string {
	l := []string{strconv.FormatInt(m.ID, 10), m.Class, m.Env.From, strconv.FormatInt(m.Env.At, 10), strconv.Itoa(len(m.Env.To))}
	return append(append(l, m.Env.To...), string(m.Body))
}

// laid is what the chapter says of Encode, over again, whether the record may be or not.
func laid(r api.Record) string {
	p, s, h := r.Purged, r.Seal, r.Hold
	rest := ""
	switch r.Kind {
	case 1:
		rest = put(texts(r.Msg)...)
	case 2:
		rest = eight(p.ID) + eight(p.At) + string(p.Leaf[:])
	case 3:
		rest = four(s.Seg) + four(s.Count) + string(s.Root[:]) + string(s.Prev[:])
	case 4:
		rest = put(h.Name, h.Who)
	case 5:
		rest = put(h.Name)
	}
	return one(r.Kind) + rest
}

// over is more, but of r's kind, and with what r has of that kind.
func over(more, r api.Record) api.Record {
	more.Kind = r.Kind
	switch r.Kind {
	case 1:
		more.Msg = r.Msg
	case 2:
		more.Purged = r.Purged
	case 3:
		more.Seal = r.Seal
	case 4:
		more.Hold = r.Hold
	case 5:
		more.Hold.Name = r.Hold.Name
	}
	return more
}

// bare is the record with nothing but what its kind has.
func bare(r api.Record) api.Record { return over(api.Record{}, r) }

// told is a record as a test tells it: its kind, what its bytes would be, and the numbers that these don't hold.
func told(r api.Record) string {
	return "kind " + strconv.Itoa(r.Kind) + ", " + short(laid(r)) + ", segment " + strconv.Itoa(r.Seal.Seg) + ", " + strconv.Itoa(r.Seal.Count) + " records"
}

// alike is whether two records are the same one, whatever their kind has.
func alike(r, s api.Record) bool {
	return r.Kind == s.Kind && slices.Equal(texts(r.Msg), texts(s.Msg)) && r.Purged == s.Purged && r.Seal == s.Seal && r.Hold == s.Hold
}

// encodes fails the test unless Encode answers what the chapter says of r, and the other calls take that for the record with nothing but what its kind has.
func encodes(t *testing.T, what string, r api.Record) {
	t.Helper()
	want := laid(r)
	if b, err := record.Encode(r); err != api.OK || string(b) != want {
		t.Errorf("%s: Encode of %s: got %s, %d, want %s", what, told(r), short(string(b)), err, short(want))
	}
	decodes(t, what, want, bare(r))
}

// refuses fails the test unless Encode answers that error of r, and nothing beside it.
func refuses(t *testing.T, what string, r api.Record, want api.Errno) {
	t.Helper()
	if b, err := record.Encode(r); err != want || len(b) != 0 {
		t.Errorf("%s: Encode of %s: got %s, %d, want %d", what, told(r), short(string(b)), err, want)
	}
}

// encodesNone fails the test unless Encode answers that error of r, and nobody takes what it would have been.
func encodesNone(t *testing.T, what string, r api.Record, want api.Errno) {
	t.Helper()
	refuses(t, what, r, want)
	decodesNone(t, what, laid(r))
}

// P16.1

// The bytes of each kind, written out.
func TestEncodeOrdinary(t *testing.T) {
	noughts := strings.Repeat("00", 32)
	for text, r := range map[string]api.Record{
		"01" + hex.EncodeToString([]byte("1:7,1:a,0:,1:0,1:1,3:a@b,1:x,")):                                              of(api.Message{ID: 7, Class: "a", Env: api.Envelope{To: []string{"a@b"}}, Body: []byte("x")}),
		"02" + "0000000000000001" + "0000000000000000" + noughts:                                                        purged(1, 0, [32]byte{}),
		"02" + "0000010000000000" + "7fffffffffffffff" + hex.EncodeToString([]byte("leaf############################")): purged(api.MaxID, math.MaxInt64, sum("leaf")),
		"02" + "000000f102030405" + "0102030405060708" + noughts:                                                        purged(0xf102030405, 0x0102030405060708, [32]byte{}),
		"03" + "00000001" + "00000000" + noughts + noughts:                                                              sealed(1, 0, [32]byte{}, [32]byte{}),
		"03" + "000f423f" + "01020304" + strings.Repeat("72", 32) + strings.Repeat("70", 32):                            sealed(api.MaxSeg, 0x01020304, sum(strings.Repeat("r", 32)), sum(strings.Repeat("p", 32))),
		"04" + hex.EncodeToString([]byte("6:case-1,3:a@b,")):                                                            held("case-1", "a@b"),
		"04" + hex.EncodeToString([]byte("1:-,0:,")):                                                                    held("-", ""),
		"05" + hex.EncodeToString([]byte("6:case-1,")):                                                                  lifted("case-1"),
	} {
		if b, err := record.Encode(r); err != api.OK || hex.EncodeToString(b) != text {
			t.Errorf("Encode of %s: got %x, %d, want %s", told(r), b, err, text)
		}
		encodes(t, "ordinary", r)
	}
	for _, r := range each() {
		encodes(t, "ordinary", r)
	}
}

func TestEncodeKinds(t *testing.T) {
	kinds := []int{0, 6, 7, 8, 10, 127, 128, 254, 255, 256, 257, 258, 259, 260, 261, 262, 511, 512, 513, 65536, 65537, 1 << 31, 1<<31 + 1, 1 << 32, 1<<32 + 1, 1<<32 + 5, 1 << 40, math.MaxInt, math.MaxInt - 1}
	for k := 1; k <= 256; k++ {
		kinds = append(kinds, -k)
	}
	kinds = append(kinds, math.MinInt32, math.MinInt, math.MinInt+1, math.MinInt+2)
	for _, kind := range kinds {
		refuses(t, "no kind, nothing else", api.Record{Kind: kind}, api.ErrRecord)
		for _, r := range append(each(), all()) {
			r.Kind = kind
			refuses(t, "no kind", r, api.ErrRecord)
		}
	}
	for kind := 1; kind <= 5; kind++ {
		r := all()
		r.Kind = kind
		encodes(t, "a kind", r)
	}
	refuses(t, "nothing at all", api.Record{}, api.ErrRecord)
}

// all is a record that has what any kind has.
func all() api.Record {
	l := each()
	return api.Record{Msg: l[0].Msg, Purged: l[1].Purged, Seal: l[2].Seal, Hold: l[3].Hold}
}

// wrong is a record that has what no kind may have.
func wrong() api.Record {
	return api.Record{Msg: api.Message{ID: -1, Class: "A"}, Purged: api.Purged{ID: -1, At: -1}, Seal: api.Seal{Seg: -1, Count: -1}, Hold: api.Hold{Name: "A", Who: "a"}}
}

// What a kind doesn't have isn't asked, whether it may be or not.
func TestEncodeWhatAKindDoesNotHave(t *testing.T) {
	for _, r := range each() {
		for _, more := range []api.Record{all(), wrong()} {
			encodes(t, "something more", over(more, r))
		}
	}
	for kind := 1; kind <= 5; kind++ {
		r := wrong()
		r.Kind = kind
		want := api.Errno(api.ErrRecord)
		if kind == 1 {
			want = api.ErrEntry
		}
		refuses(t, "nothing that may be", r, want)
		for _, good := range each() {
			if good.Kind != kind && !(kind == 5 && good.Kind == 4) && !(kind == 4 && good.Kind == 5) {
				good.Kind = kind
				refuses(t, "what another kind has", good, want)
			}
		}
		refuses(t, "a kind alone", api.Record{Kind: kind}, want)
	}
}

// The longest name of a mailbox.
var longest = strings.Repeat("a", 64) + "@" + strings.Repeat(strings.Repeat("b", 63)+".", 3) + strings.Repeat("c", 63)

// somebodys are texts that are mailboxes.
var somebodys = []string{"a@b", "A@B", "a.b@x.org", "-@b", "0@0", "7@1.2.3.4", "a@B-c.D", "!#$%&'*+-/=?^_{|}~`@x", longest}

// nobodys are texts that are neither nothing nor mailboxes.
var nobodys = []string{
	"-", " ", "a", "@", "a@", "@b", "a@b ", " a@b", "a b@c", "a@b\n", "a@b\r\n", "\x00", "a@b\x00", "<a@b>", "<>", "a@b@c", "a..b@c", ".a@b", "a@b..c", "a@-b", "a@b-", "a@b.", "a@b_c", "a@b,c@d", "a@b,", ",", ":", "3:a@b,", "0:,", "é@b", "a@é", "\xff", "a@\xff", "\"a\"@b", "a@[1.2.3.4]",
	"a" + longest, longest + "c", strings.Repeat("a", 300) + "@b",
}

// with is the record of the ordinary message, as change leaves it.
func with(change func(*api.Message)) api.Record {
	m := ordinary()
	change(&m)
	return of(m)
}

// many are n mailboxes, each another one.
func many(n int) []string {
	var l []string
	for i := range n {
		l = append(l, "to"+strconv.Itoa(i)+"@x.org")
	}
	return l
}

func TestEncodeMessages(t *testing.T) {
	encodes(t, "the least", of(api.Message{ID: 1, Class: "a", Env: api.Envelope{To: []string{"a@b"}}}))
	encodes(t, "the greatest", of(api.Message{ID: api.MaxID, Class: strings.Repeat("z", 20), Env: api.Envelope{From: longest, To: slices.Repeat([]string{longest}, 100), At: math.MaxInt64}, Body: []byte(strings.Repeat("x", 500_000))}))
	for _, s := range []string{"", "\x00", "\xff", ",", "1:a,", "\x01", "\x02", laid(each()[0]), laid(each()[1]), laid(each()[4])} {
		encodes(t, "a body", with(func(m *api.Message) { m.Body = []byte(s) }))
	}
	for _, s := range append(somebodys, "") {
		encodes(t, "a sender", with(func(m *api.Message) { m.Env.From = s }))
	}
	for _, n := range []int{1, 2, 99, 100} {
		encodes(t, "to many", with(func(m *api.Message) { m.Env.To = many(n) }))
	}
}

// What layer 15 refuses draws its error.
func TestEncodeMessagesThatMayNotBe(t *testing.T) {
	none := func(what string, change func(*api.Message)) {
		t.Helper()
		encodesNone(t, what, with(change), api.ErrEntry)
	}
	encodesNone(t, "no message", of(api.Message{}), api.ErrEntry)
	for _, id := range []int64{0, -1, -7, api.MaxID + 1, 1 << 41, math.MaxInt64, math.MinInt64} {
		none("no number", func(m *api.Message) { m.ID = id })
	}
	for _, s := range []string{"", "A", "Legal", "legal1", "le gal", "le-gal", "légal", "legal\n", "\x00", ",", strings.Repeat("a", 21), strings.Repeat("a", 1<<20)} {
		none("no class", func(m *api.Message) { m.Class = s })
	}
	for _, s := range nobodys {
		none("no sender", func(m *api.Message) { m.Env.From = s })
		none("no recipient", func(m *api.Message) { m.Env.To[0] = s })
		none("no recipient", func(m *api.Message) { m.Env.To[1] = s })
	}
	none("nobody as a recipient", func(m *api.Message) { m.Env.To[1] = "" })
	for _, n := range []int{0, 101, 1000} {
		none("none, or too many", func(m *api.Message) { m.Env.To = many(n) })
	}
	for _, at := range []int64{-1, -2, math.MinInt64} {
		none("no time", func(m *api.Message) { m.Env.At = at })
	}
	for _, n := range []int{500_001, 1_000_000, 1_000_001} {
		none("a long body", func(m *api.Message) { m.Body = []byte(strings.Repeat("x", n)) })
	}
}

// sums are some of all shapes.
func sums() [][32]byte {
	l := [][32]byte{{}, sum("leaf"), sum(strings.Repeat("\xff", 32)), sum("1:7,1:a,0:,1:0,1:1,3:a@b,1:x,"), leafOf("")}
	for i := range 32 {
		var h [32]byte
		h[i] = byte(i + 1)
		l = append(l, h)
	}
	return l
}

// goodIDs are numbers that a message may have, badIDs are others; so are times.
var (
	goodIDs   = []int64{1, 2, 7, 255, 256, 257, 65535, 65536, 1<<31 - 1, 1 << 31, 1<<32 - 1, 1 << 32, 1<<32 + 1, 0x0102030405, 0xf1f2f3f4f5, api.MaxID - 1, api.MaxID}
	badIDs    = []int64{0, -1, -2, -255, -256, -api.MaxID, -api.MaxID - 1, api.MaxID + 1, api.MaxID + 2, 1 << 41, 1 << 48, 1 << 56, 1<<56 + 1, 1<<62 + 7, math.MaxInt64 - 1, math.MaxInt64, math.MinInt64, math.MinInt64 + 1, math.MinInt64 + 7}
	goodTimes = []int64{0, 1, 2, 255, 256, 65536, 1<<31 - 1, 1 << 31, 1 << 32, api.MaxID, api.MaxID + 1, 1 << 48, 1 << 56, 0x0102030405060708, 0x71f2f3f4f5f6f7f8, math.MaxInt64 - 1, math.MaxInt64}
	badTimes  = []int64{-1, -2, -255, -256, -257, -1 << 32, math.MinInt32, math.MinInt64, math.MinInt64 + 1}
)

func TestEncodePurged(t *testing.T) {
	for _, id := range goodIDs {
		for _, at := range goodTimes {
			encodes(t, "purged", purged(id, at, sum("leaf")))
		}
		for _, at := range badTimes {
			encodesNone(t, "no time", purged(id, at, sum("leaf")), api.ErrRecord)
		}
	}
	for _, id := range badIDs {
		for _, at := range append(goodTimes, badTimes...) {
			encodesNone(t, "no number", purged(id, at, sum("leaf")), api.ErrRecord)
		}
	}
	for _, leaf := range sums() {
		encodes(t, "a leaf", purged(7, 0, leaf))
		encodesNone(t, "a leaf, no number", purged(0, 0, leaf), api.ErrRecord)
		encodesNone(t, "a leaf, no time", purged(7, -1, leaf), api.ErrRecord)
	}
}

// Which numbers a segment may have, and which not, and of how many records four bytes tell, and not.
var (
	goodSegs   = []int{1, 2, 3, 255, 256, 257, 65535, 65536, 500_000, api.MaxSeg - 1, api.MaxSeg}
	badSegs    = []int{0, -1, -2, -255, -256, -api.MaxSeg, api.MaxSeg + 1, api.MaxSeg + 2, 1 << 20, 1 << 24, math.MaxInt32, 1 << 31, math.MaxUint32, 1 << 32, 1<<32 + 1, 1<<32 + api.MaxSeg, -1<<32 + 1, math.MaxInt, math.MinInt, math.MinInt + 1}
	goodCounts = []int{0, 1, 2, 255, 256, 1000, 65536, math.MaxInt32, 1 << 31, math.MaxUint32 - 1, math.MaxUint32}
	badCounts  = []int{-1, -2, -255, -256, math.MinInt32, -math.MaxUint32, -1 << 32, -1<<32 + 1, 1 << 32, 1<<32 + 1, 1<<32 + 1000, 1 << 33, 1 << 40, math.MaxInt - 1, math.MaxInt, math.MinInt, math.MinInt + 1}
)

func TestEncodeSeals(t *testing.T) {
	root, prev := sum("root"), sum("prev")
	for _, seg := range goodSegs {
		for _, count := range goodCounts {
			encodes(t, "a seal", sealed(seg, count, root, prev))
		}
		for _, count := range badCounts {
			refuses(t, "no count", sealed(seg, count, root, prev), api.ErrRecord)
		}
	}
	for _, seg := range badSegs {
		for _, count := range append(goodCounts, badCounts...) {
			refuses(t, "no segment", sealed(seg, count, root, prev), api.ErrRecord)
		}
	}
	for i, h := range sums() {
		for _, g := range [][32]byte{{}, h, sums()[len(sums())-1-i]} {
			encodes(t, "sums", sealed(3, 1000, h, g))
			encodes(t, "sums", sealed(3, 1000, g, h))
			refuses(t, "sums, no segment", sealed(0, 0, h, g), api.ErrRecord)
		}
	}
	refuses(t, "no seal", sealed(0, 0, [32]byte{}, [32]byte{}), api.ErrRecord)
}

// goodNames are names that a hold may have, badNames are others.
var (
	goodNames = []string{"a", "z", "0", "9", "-", "--", "case-1", "2026-11-20", "all", "7", "abcdefghijklmnopqrstuvwxyz", "0123456789-", strings.Repeat("x", 29), strings.Repeat("x", 30), strings.Repeat("-", 30)}
	badNames  = []string{"", " ", "A", "Z", "Case-1", "case 1", "case_1", "case.1", "case-1 ", " case-1", "case-1\n", "\x00", "a\x00", "a,", ",", ":", "1:a,", "a@b", "é", "\xff", "\u0663", "\u2010", "\u212a", strings.Repeat("x", 31), strings.Repeat("x", 300)}
)

func TestEncodeHolds(t *testing.T) {
	for _, name := range goodNames {
		for _, who := range append(somebodys, "") {
			encodes(t, "a hold", held(name, who))
		}
		for _, who := range nobodys {
			encodesNone(t, "nobody", held(name, who), api.ErrRecord)
		}
	}
	for _, name := range badNames {
		for _, who := range append(append(somebodys, ""), nobodys...) {
			encodesNone(t, "no name", held(name, who), api.ErrRecord)
		}
	}
	for _, n := range []int{1_000_000, 1_000_001} {
		long := strings.Repeat("x", n)
		for _, r := range []api.Record{held(long, ""), held("a", long), held("a", long+"@b"), lifted(long)} {
			encodesNone(t, "very long", r, api.ErrRecord)
		}
	}
	encodesNone(t, "no hold", held("", ""), api.ErrRecord)
	encodesNone(t, "the other way round", held("a@b", "case-1"), api.ErrRecord)
}

func TestEncodeLifts(t *testing.T) {
	whose := append(append([]string{""}, somebodys...), nobodys...)
	for _, name := range goodNames {
		for _, who := range whose {
			r := lifted(name)
			r.Hold.Who = who
			encodes(t, "a lift", r)
		}
	}
	for _, name := range badNames {
		for _, who := range whose {
			r := lifted(name)
			r.Hold.Who = who
			encodesNone(t, "no name", r, api.ErrRecord)
		}
	}
}

// Each byte as a name, and in one.
func TestEncodeEachByteOfAName(t *testing.T) {
	for c := range 256 {
		b := one(c)
		ok := strings.Contains("abcdefghijklmnopqrstuvwxyz0123456789-", b)
		for _, name := range []string{b, "a" + b, b + "a", "a" + b + "a", strings.Repeat(b, 30)} {
			for _, r := range []api.Record{held(name, ""), held(name, "a@b"), lifted(name)} {
				if ok {
					encodes(t, "a byte of a name", r)
				} else {
					encodesNone(t, "a byte of no name", r, api.ErrRecord)
				}
			}
		}
	}
}
