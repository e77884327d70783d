package frame_test

import (
	"bytes"
	"hash/crc32"
	"math/rand/v2"
	"testing"

	"scriptorium/api"
	"scriptorium/frame"
)

// written is Write's answer where there has to be one.
func written(t *testing.T, l [][]byte) []byte {
	t.Helper()
	b, err := frame.Write(l)
	if err != api.OK {
		t.Fatalf("Write of %d records: got %d", len(l), err)
	}
	return b
}

// back fails the test unless All finds just l in b, in its first size bytes.
func back(t *testing.T, b []byte, l [][]byte, size int) {
	t.Helper()
	got, n := frame.All(b)
	if len(got) != len(l) || n != size {
		t.Fatalf("got %d records in %d bytes, want %d in %d", len(got), n, len(l), size)
	}
	for i := range l {
		if !bytes.Equal(got[i], l[i]) {
			t.Fatalf("record %d: got %q, want %q", i, got[i], l[i])
		}
	}
}

// lists tells lists of records that look drawn by lot, the same in each run.
func lists(yield func([][]byte) bool) {
	r := rand.New(rand.NewPCG(9, 9))
	for range 300 {
		l := make([][]byte, r.IntN(8))
		for i := range l {
			l[i] = drawn(r.Uint64(), r.IntN(40))
			// Much of noughts: so a length or a sum may stand where none is meant.
			if r.IntN(3) == 0 {
				clear(l[i])
			}
		}
		if !yield(l) {
			return
		}
	}
}

// P2.6

func TestBack(t *testing.T) {
	for l := range lists {
		b := written(t, l)
		back(t, b, l, len(b))
	}
}

func TestBackWithBytesBehind(t *testing.T) {
	seed := uint64(0)
	for l := range lists {
		b := written(t, l)
		torn := framed(drawn(seed, 30))
		for _, behind := range [][]byte{{0}, {1, 2}, make([]byte, 7), []byte("no record at all"), torn[:7], torn[:8], torn[:len(torn)-1], drawn(seed, 50), bytes.Repeat([]byte{255}, 60)} {
			seed++
			if _, _, ok := frame.Next(behind); ok {
				t.Fatalf("a record: %q", behind)
			}
			back(t, append(bytes.Clone(b), behind...), l, len(b))
		}
	}
}

func TestBackWithLongRecords(t *testing.T) {
	l := [][]byte{drawn(1, longest), nil, drawn(2, longest-1), drawn(3, 1), make([]byte, longest)}
	b := written(t, l)
	back(t, b, l, len(b))
	back(t, append(bytes.Clone(b), b[:len(b)-1]...), append(append([][]byte(nil), l...), l[:4]...), 2*len(b)-longest-8)
	back(t, b[:len(b)-1], l[:4], len(b)-longest-8)
}

// parted is what the chapter says of All, over again and by hand.
func parted(b []byte) ([][]byte, int) {
	var l [][]byte
	n := 0
	for {
		rest := b[n:]
		if len(rest) < 8 {
			return l, n
		}
		size := uint64(rest[0]) + uint64(rest[1])<<8 + uint64(rest[2])<<16 + uint64(rest[3])<<24
		if size > longest || size > uint64(len(rest)-8) {
			return l, n
		}
		rec := rest[8 : 8+size]
		sum := crc32.ChecksumIEEE(rec)
		if !bytes.Equal(rest[4:8], []byte{byte(sum), byte(sum >> 8), byte(sum >> 16), byte(sum >> 24)}) {
			return l, n
		}
		l, n = append(l, rec), n+8+int(size)
	}
}

// holds fails the test unless the calls answer of b what the chapter says, and of each other what they must.
func holds(t *testing.T, b []byte) {
	t.Helper()
	l, n := parted(b)
	back(t, b, l, n)
	if got := written(t, l); !bytes.Equal(got, b[:n]) {
		t.Fatalf("%q: written again: %q", b, got)
	}
	if len(l) == 0 {
		findsNone(t, "none", b)
	} else {
		finds(t, "the first", b, l[0], b[8+len(l[0]):])
	}
	findsNone(t, "behind all", b[n:])
	if got := frame.Crc(b); got != crc32.ChecksumIEEE(b) {
		t.Fatalf("Crc(%q): got %08X", b, got)
	}
}

// P1: any bytes.
func TestAnyBytes(t *testing.T) {
	r := rand.New(rand.NewPCG(5, 6))
	for l := range lists {
		b := written(t, l)
		for range 4 {
			if len(b) == 0 {
				b = []byte{0}
			}
			switch i := r.IntN(len(b)); r.IntN(4) {
			case 0:
				b[i] ^= 1 << r.IntN(8)
			case 1:
				b = b[:i]
			case 2:
				b = append(b, b[i:]...)
			case 3:
				b = append(b[:i:i], append(drawn(r.Uint64(), r.IntN(20)), b[i:]...)...)
			}
			holds(t, b)
		}
	}
}

func FuzzAnyBytes(f *testing.F) {
	f.Add([]byte(nil))
	f.Add(make([]byte, 23))
	f.Add(joined("a", "", "bcd"))
	f.Add(append(joined("a"), 255, 255, 255, 255, 0, 0, 0, 0))
	f.Fuzz(holds)
}

// P2

// spoil writes over all of b's memory, also what lies behind its length.
func spoil(b []byte) {
	b = b[:cap(b)]
	for i := range b {
		b[i] ^= 0x5A
	}
}

func TestPutSharesNothing(t *testing.T) {
	rec := []byte("12345678")
	one, two := put(t, rec), put(t, rec)
	spoil(one)
	if string(rec) != "12345678" || !bytes.Equal(two, joined("12345678")) {
		t.Errorf("%q, %q", rec, two)
	}
	three := put(t, rec)
	spoil(rec)
	if !bytes.Equal(three, joined("12345678")) {
		t.Errorf("%q", three)
	}
}

func TestWriteSharesNothing(t *testing.T) {
	l := [][]byte{[]byte("12345678"), nil, []byte("abc")}
	one, two := written(t, l), written(t, l)
	spoil(one)
	if string(l[0]) != "12345678" || len(l[1]) > 0 || string(l[2]) != "abc" || len(l) != 3 {
		t.Errorf("%q", l)
	}
	spoil(l[0])
	if !bytes.Equal(two, joined("12345678", "", "abc")) {
		t.Errorf("%q", two)
	}
}

func TestNextSharesNothing(t *testing.T) {
	for _, x := range []struct{ b, rec, rest string }{
		{string(joined("12345678", "abc")) + "?", "12345678", string(joined("abc")) + "?"},
		{string(joined("12345678")), "12345678", ""},
		{string(joined("")) + "?", "", "?"},
		{"no record at all", "", "no record at all"},
		{"few", "", "few"},
		{"", "", ""},
	} {
		given := append(make([]byte, 0, 100), x.b...)
		rec, rest, _ := frame.Next(given)
		spoil(rec)
		if string(rest) != x.rest || string(given) != x.b || bytes.Count(given[:100], []byte{0x5A}) > 0 {
			t.Errorf("%q: behind a change of the record: %q, %q", x.b, rest, given[:100])
		}
		rec, rest, _ = frame.Next(given)
		spoil(rest)
		if string(rec) != x.rec || string(given) != x.b || bytes.Count(given[:100], []byte{0x5A}) > 0 {
			t.Errorf("%q: behind a change of the rest: %q, %q", x.b, rec, given[:100])
		}
		rec, rest, _ = frame.Next(given)
		spoil(given)
		if string(rec) != x.rec || string(rest) != x.rest {
			t.Errorf("%q: behind a change of the argument: %q, %q", x.b, rec, rest)
		}
	}
}

func TestAllSharesNothing(t *testing.T) {
	b := joined("12345678", "", "abc", "abc")
	given := bytes.Clone(b)
	one, _ := frame.All(given)
	two, _ := frame.All(given)
	spoil(one[0])
	spoil(one[2])
	one[1] = []byte("else")
	if string(one[3]) != "abc" || !bytes.Equal(given, b) {
		t.Errorf("%q, %q", one, given)
	}
	spoil(given)
	for i, s := range []string{"12345678", "", "abc", "abc"} {
		if string(two[i]) != s {
			t.Errorf("record %d: %q", i, two[i])
		}
	}
}

// What lies behind a list's length is no part of it, though it be the rest of a record.
func TestBehindTheLength(t *testing.T) {
	b := joined("12345678", "abc", "def")
	given := bytes.Clone(b)
	n := len(joined("12345678", "abc"))
	for i := range n {
		l, _ := parted(b[:i:i])
		back(t, given[:i], l, len(written(t, l)))
	}
	takes(t, "two of three", given[:n], "12345678", "abc")
	_, rest, _ := frame.Next(given[:n])
	if _ = append(rest, "xyz"...); !bytes.Equal(given, b) {
		t.Errorf("given: %q", given)
	}
	if got := put(t, b[8:12]); !bytes.Equal(got, joined("1234")) {
		t.Errorf("Put: %q", got)
	}
	l := [][]byte{b[8:10], b[10:12], make([]byte, longest+1)}
	if got := written(t, l[:2]); !bytes.Equal(got, joined("12", "34")) || !bytes.Equal(b, given) {
		t.Errorf("Write: %q", got)
	}
	if got := frame.Crc(b[8:12]); got != crc32.ChecksumIEEE([]byte("1234")) {
		t.Errorf("Crc: %08X", got)
	}
}
