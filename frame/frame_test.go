package frame_test

import (
	"bytes"
	"encoding/binary"
	"hash/crc32"
	"math/rand/v2"
	"slices"
	"testing"

	"scriptorium/api"
	"scriptorium/frame"
)

// longest is how many bytes a record may have.
const longest = 1000000

// framed is a record by hand, without a bound: what Put is held against.
func framed(b []byte) []byte {
	out := binary.LittleEndian.AppendUint32(nil, uint32(len(b)))
	out = binary.LittleEndian.AppendUint32(out, crc32.ChecksumIEEE(b))
	return append(out, b...)
}

// joined is those texts as records, by hand.
func joined(texts ...string) []byte {
	var out []byte
	for _, s := range texts {
		out = append(out, framed([]byte(s))...)
	}
	return out
}

// drawn is n bytes that look drawn by lot, the same in each run.
func drawn(seed uint64, n int) []byte {
	r := rand.New(rand.NewPCG(seed, 1))
	b := make([]byte, n)
	for i := range b {
		b[i] = byte(r.Uint32())
	}
	return b
}

// put is Put's answer where there has to be one.
func put(t *testing.T, b []byte) []byte {
	t.Helper()
	out, err := frame.Put(b)
	if err != api.OK {
		t.Fatalf("Put of %d bytes: got %d", len(b), err)
	}
	return out
}

// finds fails the test unless Next finds that record at the beginning of b, and that rest behind it.
func finds(t *testing.T, what string, b, rec, rest []byte) {
	t.Helper()
	gotRec, gotRest, ok := frame.Next(b)
	if !ok || !bytes.Equal(gotRec, rec) || !bytes.Equal(gotRest, rest) {
		t.Errorf("%s: Next: got %d bytes, %d behind, %v, want %d, %d", what, len(gotRec), len(gotRest), ok, len(rec), len(rest))
	}
}

// findsNone fails the test unless Next finds no record at the beginning of b, and answers b itself.
func findsNone(t *testing.T, what string, b []byte) {
	t.Helper()
	rec, rest, ok := frame.Next(b)
	if ok || len(rec) > 0 || !bytes.Equal(rest, b) {
		t.Errorf("%s: Next of %d bytes: got %d bytes, %d behind, %v", what, len(b), len(rec), len(rest), ok)
	}
}

// takes fails the test unless All finds just those records in b, in the bytes that they take by hand.
func takes(t *testing.T, what string, b []byte, texts ...string) {
	t.Helper()
	recs, n := frame.All(b)
	var got []string
	for _, rec := range recs {
		got = append(got, string(rec))
	}
	if !slices.Equal(got, texts) || n != len(joined(texts...)) {
		t.Errorf("%s: All: got %q in %d bytes, want %q in %d", what, got, n, texts, len(joined(texts...)))
	}
}

// P2.1

func TestCrcKnown(t *testing.T) {
	rising := make([]byte, 32)
	for i := range rising {
		rising[i] = byte(i)
	}
	for _, x := range []struct {
		b   []byte
		sum uint32
	}{
		{nil, 0},
		{[]byte{}, 0},
		{[]byte{0}, 0xD202EF8D},
		{[]byte{255}, 0xFF000000},
		{[]byte("a"), 0xE8B7BE43},
		{[]byte("abc"), 0x352441C2},
		{[]byte("123456789"), 0xCBF43926},
		{[]byte("The quick brown fox jumps over the lazy dog"), 0x414FA339},
		{make([]byte, 32), 0x190A55AD},
		{bytes.Repeat([]byte{255}, 32), 0xFF6CAB0B},
		{rising, 0x91267E8A},
	} {
		if got := frame.Crc(x.b); got != x.sum {
			t.Errorf("Crc(%q): got %08X, want %08X", x.b, got, x.sum)
		}
	}
}

func TestCrcOfEachByte(t *testing.T) {
	for c := range 256 {
		for _, b := range [][]byte{{byte(c)}, {byte(c), 0}, {7, byte(c)}} {
			if got, want := frame.Crc(b), crc32.ChecksumIEEE(b); got != want {
				t.Errorf("Crc(%v): got %08X, want %08X", b, got, want)
			}
		}
	}
}

func TestCrcOfEachLength(t *testing.T) {
	b := drawn(1, 3*longest)
	// A record has a bound, Crc has none.
	for _, n := range []int{2, 3, 4, 5, 7, 8, 9, 255, 256, 257, 65535, 65536, longest, longest + 1, 3 * longest} {
		if got, want := frame.Crc(b[:n]), crc32.ChecksumIEEE(b[:n]); got != want {
			t.Errorf("Crc of %d bytes: got %08X, want %08X", n, got, want)
		}
	}
}

// P2.2

func TestPutExample(t *testing.T) {
	if got := put(t, []byte("a")); string(got) != "\x01\x00\x00\x00\x43\xBE\xB7\xE8a" {
		t.Errorf("% X", got)
	}
}

func TestPutNothing(t *testing.T) {
	for _, b := range [][]byte{nil, {}} {
		if got := put(t, b); string(got) != "\x00\x00\x00\x00\x00\x00\x00\x00" {
			t.Errorf("% X", got)
		}
	}
}

func TestPutLengths(t *testing.T) {
	b := drawn(2, longest)
	for _, x := range []struct {
		n    int
		head string
	}{
		{9, "\x09\x00\x00\x00"},
		{255, "\xFF\x00\x00\x00"},
		{256, "\x00\x01\x00\x00"},
		{65535, "\xFF\xFF\x00\x00"},
		{65536, "\x00\x00\x01\x00"},
		{longest - 1, "\x3F\x42\x0F\x00"},
		{longest, "\x40\x42\x0F\x00"},
	} {
		got := put(t, b[:x.n])
		if !bytes.HasPrefix(got, []byte(x.head)) || !bytes.Equal(got, framed(b[:x.n])) {
			t.Errorf("%d bytes: got % X .. and %d in all", x.n, got[:8], len(got))
		}
	}
}

func TestPutTooLong(t *testing.T) {
	for _, n := range []int{longest + 1, longest + 2, 1 << 24, 1<<24 + 1} {
		if got, err := frame.Put(make([]byte, n)); err != api.ErrLong || len(got) > 0 {
			t.Errorf("%d bytes: got %d bytes, %d", n, len(got), err)
		}
	}
	if api.ErrLong != 2 {
		t.Error(api.ErrLong)
	}
}

// P2.3

func TestNextFinds(t *testing.T) {
	for _, n := range []int{0, 1, 2, 7, 8, 9, 255, 256, 65536, longest - 1, longest} {
		rec := drawn(3, n)
		b := put(t, rec)
		finds(t, "alone", b, rec, nil)
		finds(t, "a byte behind", append(bytes.Clone(b), 'x'), rec, []byte("x"))
		finds(t, "a record behind", append(bytes.Clone(b), b...), rec, b)
		finds(t, "a torn one behind", append(bytes.Clone(b), b[:len(b)-1]...), rec, b[:len(b)-1])
	}
}

func TestNextOfFewBytes(t *testing.T) {
	findsNone(t, "nil", nil)
	findsNone(t, "no bytes", []byte{})
	for n := range 8 {
		findsNone(t, "noughts", make([]byte, n))
		findsNone(t, "letters", []byte("abcdefg")[:n])
	}
	finds(t, "eight noughts are a record of no bytes", make([]byte, 8), nil, nil)
	finds(t, "nine", make([]byte, 9), nil, make([]byte, 1))
}

func TestNextTorn(t *testing.T) {
	for _, s := range []string{"", "a", "bcd", "123456789", string(drawn(4, 300))} {
		b := joined(s)
		for n := range b {
			findsNone(t, "torn", b[:n])
			// The length of the first bytes is that of all; what is behind it is no part of the list.
			findsNone(t, "torn, with room behind", append(make([]byte, 0, 2*len(b)), b...)[:n])
		}
		finds(t, "whole", b, []byte(s), nil)
	}
	b := framed(drawn(5, longest))
	for _, n := range []int{7, 8, 9, longest, longest + 7} {
		findsNone(t, "a long one, torn", b[:n])
	}
}

func TestNextWithEachBitTurned(t *testing.T) {
	b := joined("some bytes", "and more")
	for i := range len(joined("some bytes")) {
		for bit := range 8 {
			turned := bytes.Clone(b)
			turned[i] ^= 1 << bit
			findsNone(t, "a bit turned", turned)
		}
	}
	for i := len(joined("some bytes")); i < len(b); i++ {
		turned := bytes.Clone(b)
		turned[i]++
		finds(t, "a byte changed behind it", turned, []byte("some bytes"), turned[len(joined("some bytes")):])
	}
}

func TestNextWithAnotherSum(t *testing.T) {
	sum := crc32.ChecksumIEEE([]byte("abc"))
	for _, x := range []uint32{0, 1, sum + 1, ^sum, sum<<8 | sum>>24, 1<<32 - 1} {
		b := binary.LittleEndian.AppendUint32([]byte{3, 0, 0, 0}, x)
		findsNone(t, "another sum", append(b, "abc"...))
	}
	finds(t, "its sum", append(binary.LittleEndian.AppendUint32([]byte{3, 0, 0, 0}, sum), "abc"...), []byte("abc"), nil)
	findsNone(t, "the highest byte of the length ahead", append([]byte{0, 0, 0, 1}, joined("a")[4:]...))
	findsNone(t, "the highest byte of the sum ahead", append(binary.BigEndian.AppendUint32([]byte{3, 0, 0, 0}, sum), "abc"...))
}

func TestNextWithAnotherLength(t *testing.T) {
	whole := joined("abc")
	for _, n := range []uint32{0, 1, 2, 4, 5, 8, 11, 12, 255, 256, longest, longest + 1, 1<<31 - 1, 1 << 31, 1<<31 + 3, 1<<32 - 8, 1<<32 - 1} {
		b := append(binary.LittleEndian.AppendUint32(nil, n), whole[4:]...)
		findsNone(t, "another length", b)
		takes(t, "another length", b)
	}
}

// A length that says more than there is, where the sum is that of what there is.
func TestNextWithTooGreatALength(t *testing.T) {
	for _, n := range []uint32{4, 5, 256, longest, 1<<31 + 3, 1<<32 - 1} {
		b := binary.LittleEndian.AppendUint32(nil, n)
		b = binary.LittleEndian.AppendUint32(b, crc32.ChecksumIEEE([]byte("abc")))
		findsNone(t, "too great a length", append(b, "abc"...))
	}
}

// Put answers nothing of that sort, so it is none, though all of its bytes are there and the sum fits.
func TestNextAboveTheBound(t *testing.T) {
	finds(t, "at the bound", framed(make([]byte, longest)), make([]byte, longest), nil)
	for _, n := range []int{longest + 1, longest + 2, 1 << 24} {
		b := framed(make([]byte, n))
		findsNone(t, "above the bound", b)
		takes(t, "above the bound", b)
		takes(t, "above the bound, behind a good one", append(joined("a"), b...), "a")
	}
}

// P2.4

func TestAllOfNone(t *testing.T) {
	for _, b := range [][]byte{nil, {}, {0}, make([]byte, 7), []byte("no record at all"), joined("abc")[:10]} {
		takes(t, "none", b)
		if recs, n := frame.All(b); len(recs) > 0 || n != 0 {
			t.Errorf("%q: got %q, %d", b, recs, n)
		}
	}
}

func TestAllFinds(t *testing.T) {
	for _, texts := range [][]string{
		{""},
		{"a"},
		{"a", "bcd"},
		{"", "", ""},
		{"a", "", "bcd", "", "e"},
		{"same", "same"},
		{string(joined("a record", "in a record"))},
		{string(drawn(6, longest)), "", string(drawn(7, longest))},
	} {
		takes(t, "all", joined(texts...), texts...)
	}
	takes(t, "noughts", make([]byte, 23), "", "")
}

func TestAllTorn(t *testing.T) {
	texts := []string{"a", "", "bcd", "123456789"}
	b := joined(texts...)
	for n := range len(b) + 1 {
		whole := len(texts)
		for len(joined(texts[:whole]...)) > n {
			whole--
		}
		takes(t, "torn", b[:n], texts[:whole]...)
	}
}

func TestAllStopsAtTheFirstThatIsNone(t *testing.T) {
	texts := []string{"first", "second", "third"}
	b := joined(texts...)
	for i := range b {
		whole := 0
		for len(joined(texts[:whole+1]...)) <= i {
			whole++
		}
		changed := bytes.Clone(b)
		changed[i] ^= 0x20
		takes(t, "changed", changed, texts[:whole]...)
	}
	takes(t, "bytes between", append(append(joined("a"), "??"...), joined("b")...), "a")
	takes(t, "bytes ahead", append([]byte("?"), joined("a", "b")...))
	takes(t, "bytes behind", append(joined("a", "b"), "?"...), "a", "b")
}

func TestAllOfManyRecords(t *testing.T) {
	var b []byte
	for i := range 20000 {
		b = append(b, framed(binary.LittleEndian.AppendUint16(nil, uint16(i)))...)
	}
	recs, n := frame.All(b)
	if len(recs) != 20000 || n != len(b) {
		t.Fatal(len(recs), n)
	}
	for i, rec := range recs {
		if len(rec) != 2 || int(binary.LittleEndian.Uint16(rec)) != i {
			t.Fatalf("record %d: %v", i, rec)
		}
	}
}

// P2.5

func TestWrite(t *testing.T) {
	for _, texts := range [][]string{nil, {""}, {"a"}, {"a", "", "bcd"}, {"bcd", "a"}, {"same", "same"}, {string(drawn(8, longest)), "x"}} {
		var l [][]byte
		var want []byte
		for _, s := range texts {
			l = append(l, []byte(s))
			want = append(want, put(t, []byte(s))...)
		}
		if got, err := frame.Write(l); err != api.OK || !bytes.Equal(got, want) || !bytes.Equal(got, joined(texts...)) {
			t.Errorf("%d texts: got %d bytes, %d, want %d", len(texts), len(got), err, len(want))
		}
	}
}

func TestWriteNothing(t *testing.T) {
	for _, l := range [][][]byte{nil, {}} {
		if got, err := frame.Write(l); len(got) > 0 || err != api.OK {
			t.Errorf("got %v, %d", got, err)
		}
	}
	if got, err := frame.Write([][]byte{nil, {}}); err != api.OK || !bytes.Equal(got, make([]byte, 16)) {
		t.Errorf("two of no bytes: got %v, %d", got, err)
	}
}

func TestWriteTooLong(t *testing.T) {
	long, good := make([]byte, longest+1), []byte("a")
	for _, l := range [][][]byte{{long}, {long, good}, {good, long}, {good, long, good}, {long, long}, {good, nil, long}} {
		if got, err := frame.Write(l); err != api.ErrLong || len(got) > 0 {
			t.Errorf("got %d bytes, %d", len(got), err)
		}
	}
	// The bound is one of each record, not of all of them.
	if got, err := frame.Write([][]byte{long[1:], long[1:], good}); err != api.OK || len(got) != 2*longest+25 {
		t.Errorf("got %d bytes, %d", len(got), err)
	}
}
