package record_test

import (
	"encoding/hex"
	"math"
	"strconv"
	"strings"
	"testing"

	"scriptorium/api"
	"scriptorium/record"
)

// Times at which something is purged, or not.
var whens = []int64{0, 1, 1234567890, 1 << 32, math.MaxInt64, -1, -2, math.MinInt64}

// decodes fails the test unless Decode finds just that record in s, Encode of it is s, and the other calls answer of s what the chapter says of that record.
func decodes(t *testing.T, what, s string, want api.Record) {
	t.Helper()
	b := []byte(s)
	r, err := record.Decode(b)
	if err != api.OK || !alike(r, want) {
		t.Errorf("%s: Decode(%s): got %s, %d, want %s", what, short(s), told(r), err, told(want))
	}
	if again, err := record.Encode(r); err != api.OK || string(again) != s {
		t.Errorf("%s: Encode of Decode(%s): got %s, %d", what, short(s), short(string(again)), err)
	}
	leaf, id := leafOf(s), int64(0)
	switch want.Kind {
	case 1:
		id = want.Msg.ID
	case 2:
		leaf, id = want.Purged.Leaf, want.Purged.ID
	}
	if got := record.Leaf(b); got != leaf {
		t.Errorf("%s: Leaf(%s): got %x, want %x", what, short(s), got, leaf)
	}
	if got := record.ID(b); got != id {
		t.Errorf("%s: ID(%s): got %d, want %d", what, short(s), got, id)
	}
	if want.Kind == 1 {
		purges(t, what, s, id)
	} else {
		purgesNone(t, what, s)
	}
}

// decodesNone fails the test unless Decode answers that s is nobody's, and nothing beside it, and the other calls take s for no record.
func decodesNone(t *testing.T, what, s string) {
	t.Helper()
	b := []byte(s)
	if r, err := record.Decode(b); err != api.ErrRecord || !alike(r, api.Record{}) {
		t.Errorf("%s: Decode(%s): got %s, %d", what, short(s), told(r), err)
	}
	if got := record.Leaf(b); got != leafOf(s) {
		t.Errorf("%s: Leaf(%s): got %x", what, short(s), got)
	}
	if got := record.ID(b); got != 0 {
		t.Errorf("%s: ID(%s): got %d", what, short(s), got)
	}
	purgesNone(t, what, s)
}

// purges fails the test unless Purge of s, the message of that number, is of its number and leaf, at each time that may be.
func purges(t *testing.T, what, s string, id int64) {
	t.Helper()
	for _, at := range whens {
		got, err := record.Purge([]byte(s), at)
		if at < 0 {
			if err != api.ErrRecord || len(got) != 0 {
				t.Errorf("%s: Purge(%s, %d): got %x, %d", what, short(s), at, got, err)
			}
			continue
		}
		if want := laid(purged(id, at, leafOf(s))); err != api.OK || string(got) != want {
			t.Errorf("%s: Purge(%s, %d): got %x, %d, want %x", what, short(s), at, got, err, want)
		}
		if record.Leaf(got) != record.Leaf([]byte(s)) || record.ID(got) != record.ID([]byte(s)) {
			t.Errorf("%s: Purge(%s, %d) has another leaf or number: %x, %d", what, short(s), at, record.Leaf(got), record.ID(got))
		}
	}
}

// purgesNone fails the test unless Purge refuses s, at each time.
func purgesNone(t *testing.T, what, s string) {
	t.Helper()
	for _, at := range whens {
		if got, err := record.Purge([]byte(s), at); err != api.ErrRecord || len(got) != 0 {
			t.Errorf("%s: Purge(%s, %d): got %x, %d", what, short(s), at, got, err)
		}
	}
}

// The chapter's example: what is left of a message has 49 bytes. Its leaf was worked out by another program.
func TestExample(t *testing.T) {
	b := []byte("\x011:7,1:a,0:,1:0,1:1,3:a@b,1:x,")
	p, err := record.Purge(b, 9)
	if want := "02" + "0000000000000007" + "0000000000000009" + "eeda3956059f445f8962ca5c71a6e577329cf67ee93c27d3c1799b2dc93fc008"; err != api.OK || len(p) != 49 || hex.EncodeToString(p) != want {
		t.Errorf("got %x, %d, want %s", p, err, want)
	}
	if record.Leaf(p) != record.Leaf(b) || record.ID(p) != 7 {
		t.Errorf("got %x, %d", record.Leaf(p), record.ID(p))
	}
	if leaf := record.Leaf(nil); hex.EncodeToString(leaf[:]) != "6e340b9cffb37a989ca544e6bb780a2c78901d3fb33738768511a30617afa01d" {
		t.Errorf("the leaf of nothing: got %x", leaf)
	}
}

// P16.2

func TestDecodeOrdinary(t *testing.T) {
	decodes(t, "ordinary", "\x011:7,5:legal,9:a.b@x.org,10:1234567890,1:2,3:c@d,9:e.f@g.org,18:Subject: x\r\n\r\nHi\r\n,", of(ordinary()))
	decodes(t, "ordinary", "\x02\x00\x00\x00\x00\x00\x00\x00\x07\x00\x00\x00\x00\x00\x00\x00\x09leaf############################", purged(7, 9, sum("leaf")))
	decodes(t, "ordinary", "\x03\x00\x00\x00\x03\x00\x00\x03\xe8root############################prev############################", sealed(3, 1000, sum("root"), sum("prev")))
	decodes(t, "ordinary", "\x046:case-1,3:a@b,", held("case-1", "a@b"))
	decodes(t, "ordinary", "\x046:case-1,0:,", held("case-1", ""))
	decodes(t, "ordinary", "\x056:case-1,", lifted("case-1"))
}

func TestDecodeNothing(t *testing.T) {
	decodesNone(t, "nothing", "")
	for c := range 256 {
		b := one(c)
		decodesNone(t, "a kind alone", b)
		decodesNone(t, "a kind, a part of nothing", b+"0:,")
		decodesNone(t, "a kind again", b+b)
		for _, n := range []int{16, 48, 72} {
			decodesNone(t, "a kind and noughts", b+strings.Repeat("\x00", n))
		}
	}
	for _, s := range []string{"x", "0", "1", "1:a,", "0:,", "1:7,1:a,0:,1:0,1:1,3:a@b,1:x,", "6:case-1,3:a@b,", "\r\n", " "} {
		decodesNone(t, "no kind ahead", s)
	}
}

// What a kind has is nothing of another one, but that a hold of one part is a lift.
func TestDecodeAnotherKind(t *testing.T) {
	for _, r := range each() {
		s := laid(r)
		for c := range 256 {
			if c == r.Kind {
				decodes(t, "its own kind", one(c)+s[1:], r)
			} else {
				decodesNone(t, "another kind", one(c)+s[1:])
			}
			decodesNone(t, "a kind ahead", one(c)+s)
		}
		decodesNone(t, "no kind ahead", s[1:])
		decodesNone(t, "digits of the kind", strconv.Itoa(r.Kind)+s[1:])
	}
}

// often are records of each kind, short and long.
func often() []api.Record {
	return append(each(), of(api.Message{ID: 1, Class: "a", Env: api.Envelope{To: []string{"a@b"}}}), purged(1, 0, [32]byte{}), sealed(1, 0, [32]byte{}, [32]byte{}), held("-", ""), held("a", "a@b"), lifted("-"), lifted(strings.Repeat("x", 30)))
}

func TestDecodeCutOffAtEachPlace(t *testing.T) {
	for _, r := range often() {
		s := laid(r)
		for n := range len(s) {
			decodesNone(t, "cut off", s[:n])
			if n > 0 {
				decodesNone(t, "its end again", s+s[n:])
				decodesNone(t, "its beginning again", s+s[:n])
			}
		}
		decodesNone(t, "twice", s+s)
		decodes(t, "whole", s, r)
	}
}

func TestDecodeAByteLess(t *testing.T) {
	for _, r := range often() {
		s := laid(r)
		for at := range len(s) {
			decodesNone(t, "one less at "+strconv.Itoa(at), s[:at]+s[at+1:])
		}
	}
}

func TestDecodeAByteMore(t *testing.T) {
	for _, r := range each() {
		s := laid(r)
		for at := range len(s) + 1 {
			for c := range 256 {
				decodesNone(t, "one more at "+strconv.Itoa(at), s[:at]+one(c)+s[at:])
			}
		}
	}
}

// Where another byte stands it is another record, or none.
func TestDecodeAnotherByte(t *testing.T) {
	for _, r := range each() {
		s := laid(r)
		for at := range len(s) {
			for c := range 256 {
				holds(t, s[:at]+one(c)+s[at+1:])
			}
		}
	}
	decodes(t, "another number", laid(purged(8, 1234567890, sum("leaf"))), purged(8, 1234567890, sum("leaf")))
	decodes(t, "another sum", laid(sealed(3, 1000, sum("rood"), sum("prev"))), sealed(3, 1000, sum("rood"), sum("prev")))
	decodes(t, "another letter", laid(held("case-2", "a.b@x.org")), held("case-2", "a.b@x.org"))
}

func TestDecodeSomethingBehind(t *testing.T) {
	for _, r := range often() {
		for _, more := range []string{"x", ",", "0", ":", "\x00", "\r\n", "0:,", "1:a,", "3:a@b,", "0:,0:,", laid(r), strings.Repeat("\x00", 32), strings.Repeat("x", 1_000_000)} {
			s := laid(r) + more
			if r.Kind == api.RecLift && more == "0:," {
				decodesNone(t, "it would be a hold's", s)
			} else {
				decodesNone(t, "something behind", s)
			}
		}
	}
	decodesNone(t, "a hold of a lift's part", "\x046:case-1,")
	decodesNone(t, "a lift of a hold's parts", "\x056:case-1,0:,")
	decodesNone(t, "a hold of three parts", "\x046:case-1,0:,0:,")
}

// Numbers in eight bytes that may not be.
func TestDecodePurged(t *testing.T) {
	leaf := strings.Repeat("#", 32)
	for _, id := range goodIDs {
		for _, at := range goodTimes {
			decodes(t, "purged", "\x02"+eight(id)+eight(at)+leaf, purged(id, at, sum("")))
			holds(t, "\x02"+backward(eight(id))+eight(at)+leaf)
		}
		for _, at := range badTimes {
			decodesNone(t, "no time", "\x02"+eight(id)+eight(at)+leaf)
		}
	}
	for _, id := range badIDs {
		for _, at := range append(goodTimes, badTimes...) {
			decodesNone(t, "no number", "\x02"+eight(id)+eight(at)+leaf)
		}
	}
	for _, n := range []int{0, 1, 31, 33, 64} {
		decodesNone(t, "no leaf", "\x02"+eight(7)+eight(0)+strings.Repeat("#", n))
	}
	for bit := range 64 {
		id := int64(1) << bit
		if bit <= 40 {
			decodes(t, "a bit of a number", "\x02"+eight(id)+eight(0)+leaf, purged(id, 0, sum("")))
		} else {
			decodesNone(t, "a bit of no number", "\x02"+eight(id)+eight(0)+leaf)
			decodesNone(t, "a bit of no number", "\x02"+eight(id|7)+eight(0)+leaf)
		}
		if bit < 63 {
			decodes(t, "a bit of a time", "\x02"+eight(1)+eight(id)+leaf, purged(1, id, sum("")))
		} else {
			decodesNone(t, "a bit of no time", "\x02"+eight(1)+eight(id)+leaf)
		}
	}
}

// backward is s from its end on.
func backward(s string) string {
	var b strings.Builder
	for i := range len(s) {
		b.WriteByte(s[len(s)-1-i])
	}
	return b.String()
}

func TestDecodeSeals(t *testing.T) {
	root, prev := strings.Repeat("r", 32), strings.Repeat("p", 32)
	for _, seg := range goodSegs {
		for _, count := range goodCounts {
			decodes(t, "a seal", "\x03"+four(seg)+four(count)+root+prev, sealed(seg, count, sum(root), sum(prev)))
		}
	}
	for _, seg := range []int{0, api.MaxSeg + 1, api.MaxSeg + 2, 1 << 20, 1 << 24, math.MaxInt32, 1 << 31, math.MaxUint32} {
		for _, count := range goodCounts {
			decodesNone(t, "no segment", "\x03"+four(seg)+four(count)+root+prev)
		}
	}
	for n := range 200 {
		if n != 64 {
			decodesNone(t, "other sums", "\x03"+four(3)+four(7)+strings.Repeat("#", n))
		}
	}
}

func TestDecodeNames(t *testing.T) {
	for _, name := range goodNames {
		decodes(t, "a lift", "\x05"+put(name), lifted(name))
		for _, who := range append(somebodys, "") {
			decodes(t, "a hold", "\x04"+put(name, who), held(name, who))
		}
		for _, who := range nobodys {
			decodesNone(t, "nobody", "\x04"+put(name, who))
		}
	}
	for _, name := range badNames {
		decodesNone(t, "no name", "\x05"+put(name))
		decodesNone(t, "no name", "\x04"+put(name, ""))
		decodesNone(t, "no name", "\x04"+put(name, "a@b"))
	}
}

// A length may be told in one way alone.
func TestDecodeLengthsThatAreWrittenOtherwise(t *testing.T) {
	for _, ahead := range []string{"0", "00", "+", "-", " ", "\x00", strings.Repeat("0", 1000)} {
		decodesNone(t, "a lift's", "\x05"+ahead+"6:case-1,")
		decodesNone(t, "a hold's", "\x04"+ahead+"6:case-1,3:a@b,")
		decodesNone(t, "a hold's", "\x046:case-1,"+ahead+"3:a@b,")
		decodesNone(t, "a message's", "\x01"+ahead+"1:7,1:a,0:,1:0,1:1,3:a@b,1:x,")
	}
	for _, n := range []string{"", "5", "7", "60", "x", "9223372036854775807", "18446744073709551622", strings.Repeat("9", 1000)} {
		decodesNone(t, "a lift's", "\x05"+n+":case-1,")
		decodesNone(t, "a hold's", "\x04"+n+":case-1,3:a@b,")
	}
}

// A message of which layer 15 says that it is nobody's.
func TestDecodeMessagesThatMayNotBe(t *testing.T) {
	good := []string{"7", "legal", "a@b", "5", "1", "c@d", "x"}
	decodes(t, "a message", "\x01"+put(good...), of(api.Message{ID: 7, Class: "legal", Env: api.Envelope{From: "a@b", To: []string{"c@d"}, At: 5}, Body: []byte("x")}))
	for at, l := range [][]string{
		{"", "0", "-1", "07", "1099511627777", "9223372036854775808", "x"},
		{"", "A", "legal1", strings.Repeat("a", 21)},
		nobodys,
		{"", "-1", "05", "9223372036854775808"},
		{"", "0", "2", "-1", "01", "101"},
		append([]string{""}, nobodys...),
		{strings.Repeat("x", 500_001), strings.Repeat("x", 1_000_001)},
	} {
		for _, part := range l {
			parts := append([]string{}, good...)
			parts[at] = part
			decodesNone(t, "part "+strconv.Itoa(at), "\x01"+put(parts...))
		}
		decodesNone(t, "without part "+strconv.Itoa(at), "\x01"+put(append(append([]string{}, good[:at]...), good[at+1:]...)...))
	}
}

// P16.3 to P16.6

// What is left of a message isn't purged again, and what is purged of bytes is what stands in them, not what is told of them.
func TestPurge(t *testing.T) {
	for _, r := range often() {
		s := laid(r)
		if r.Kind != api.RecMessage {
			purgesNone(t, "of another kind", s)
			continue
		}
		purges(t, "a message", s, r.Msg.ID)
		p, _ := record.Purge([]byte(s), 5)
		purgesNone(t, "what is left", string(p))
		decodes(t, "what is left", string(p), purged(r.Msg.ID, 5, leafOf(s)))
		purgesNone(t, "cut off", s[:len(s)-1])
		purgesNone(t, "no kind ahead", s[1:])
	}
	purgesNone(t, "nothing", "")
	for _, id := range goodIDs {
		r := with(func(m *api.Message) { m.ID = id })
		purges(t, "each number", laid(r), id)
	}
}

// A leaf that is that of a record of some kind, or of what is left of a message.
func TestLeafOfLeaves(t *testing.T) {
	for _, r := range often() {
		leaf := leafOf(laid(r))
		decodes(t, "the leaf of one", laid(purged(7, 0, leaf)), purged(7, 0, leaf))
		decodesNone(t, "a leaf alone", string(leaf[:]))
		decodesNone(t, "a leaf, a kind ahead", "\x02"+string(leaf[:]))
	}
	for _, leaf := range sums() {
		if got := record.Leaf([]byte(laid(purged(7, 0, leaf)))); got != leaf {
			t.Errorf("got %x, want %x", got, leaf)
		}
		if got := record.Leaf([]byte(laid(purged(0, 0, leaf)))); got != leafOf(laid(purged(0, 0, leaf))) {
			t.Errorf("of what Decode refuses: got %x", got)
		}
	}
}

// Each message's record has a leaf of its own, and what is left of it has that.
func TestTheTreeStays(t *testing.T) {
	seen := map[[32]byte]int64{}
	for id := int64(1); id <= 300; id++ {
		r := with(func(m *api.Message) { m.ID = id })
		b, _ := record.Encode(r)
		leaf := record.Leaf(b)
		if seen[leaf] != 0 {
			t.Errorf("messages %d and %d have one leaf", seen[leaf], id)
		}
		seen[leaf] = id
		p, err := record.Purge(b, id)
		if err != api.OK || record.Leaf(p) != leaf || record.ID(p) != id || record.ID(b) != id {
			t.Errorf("message %d: got %d, %d, %d", id, err, record.ID(p), record.ID(b))
		}
	}
}
