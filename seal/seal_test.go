package seal_test

import (
	"bytes"
	"crypto/sha256"
	"encoding/binary"
	"encoding/hex"
	"math"
	"math/rand/v2"
	"slices"
	"strconv"
	"testing"

	"scriptorium/api"
	"scriptorium/merkle"
	"scriptorium/seal"
)

// sums is a list as the package has it.
type sums = [][32]byte

// leaves are the leaves of the texts 0, 1, 2 ..: no two of them alike.
func leaves(n int) sums {
	l := make(sums, n)
	for i := range l {
		l[i] = merkle.Leaf([]byte(strconv.Itoa(i)))
	}
	return l
}

// texts are the leaves of those texts.
func texts(all ...string) sums {
	var l sums
	for _, s := range all {
		l = append(l, merkle.Leaf([]byte(s)))
	}
	return l
}

// foreign is a sum that stands in no tree and no chain of these tests.
func foreign() [32]byte { return sha256.Sum256([]byte("not in a tree")) }

// full is a sum of nothing but ones.
func full() [32]byte { return [32]byte(bytes.Repeat([]byte{255}, 32)) }

// flipped is the sum with one bit turned.
func flipped(h [32]byte, bit int) [32]byte {
	h[bit/8] ^= 1 << (bit % 8)
	return h
}

// bytesOf is the layout as the chapter has it, laid by the library.
func bytesOf(s api.Seal) []byte {
	b := binary.BigEndian.AppendUint32(nil, uint32(s.Seg))
	b = binary.BigEndian.AppendUint32(b, uint32(s.Count))
	return slices.Concat(b, s.Root[:], s.Prev[:])
}

func sumOf(s api.Seal) [32]byte { return sha256.Sum256(bytesOf(s)) }

// inside are numbers that a segment may have, outside are numbers that it may not.
func inside() []int {
	return []int{1, 2, 3, 255, 256, 257, 65535, 65536, 65537, 500000, api.MaxSeg - 1, api.MaxSeg}
}

func outside() []int {
	return []int{
		0, -1, -2, -255, -256, -api.MaxSeg, math.MinInt32, math.MinInt32 - 1, math.MinInt + 1, math.MinInt,
		api.MaxSeg + 1, api.MaxSeg + 2, 1 << 20, 1 << 24, math.MaxInt32, 1 << 31, math.MaxUint32,
		1 << 32, 1<<32 + 1, 1<<32 + api.MaxSeg, -1<<32 + 1, math.MaxInt - 1, math.MaxInt,
	}
}

// bounds are the numbers at, below and above those that the bytes of a number of four bytes begin and end with, and far beyond.
func bounds() []int {
	all := append(inside(), outside()...)
	for bit := 0; bit < 63; bit++ {
		all = append(all, 1<<bit-1, 1<<bit, 1<<bit+1, -1<<bit-1, -1<<bit, -1<<bit+1)
	}
	return append(all, 0x01020304, 0x04030201, 0x7f80ff01, 0x5a01020304)
}

// drawn are seals that look drawn by lot, the same in each run, with numbers that their bytes tell whole.
func drawn(seed uint64, n int) []api.Seal {
	r := rand.New(rand.NewPCG(seed, 6))
	l := make([]api.Seal, n)
	for i := range l {
		l[i].Seg = 1 + r.IntN(api.MaxSeg)
		l[i].Count = int(r.Uint32())
		for j := range l[i].Root {
			l[i].Root[j], l[i].Prev[j] = byte(r.Uint32()), byte(r.Uint32())
		}
	}
	return l
}

func of(t *testing.T, seg int, l sums, prev [32]byte) api.Seal {
	t.Helper()
	s, err := seal.Of(seg, l, prev)
	if err != api.OK {
		t.Fatalf("Of segment %d, %d leaves: error %d", seg, len(l), err)
	}
	return s
}

// name is what a test tells of two numbers.
func name(what string, a, b int) string {
	return what + ": " + strconv.Itoa(a) + ", " + strconv.Itoa(b)
}

// known are a chain of three seals, their bytes, and their sums, worked out by another program.
func known() []struct{ bytes, sum string } {
	return []struct{ bytes, sum string }{
		{
			"00000001" + "00000003" + "36642e73c2540ab121e3a6bf9545b0a24982cd830eb13d3cd19de3ce6c021ec1" + "0000000000000000000000000000000000000000000000000000000000000000",
			"6e39d09578e70b333df5b2036eefe01dfbae745a46b7c7f4b16455df59d39513",
		},
		{
			"00000002" + "00000001" + "d070dc5b8da9aea7dc0f5ad4c29d89965200059c9a0ceca3abd5da2492dcb71d" + "6e39d09578e70b333df5b2036eefe01dfbae745a46b7c7f4b16455df59d39513",
			"ae2e9fb8c13aa4988f608d9cc137436e420ba162a49745cc0ab18340344ea623",
		},
		{
			"000f423f" + "00000000" + "e3b0c44298fc1c149afbf4c8996fb92427ae41e4649b934ca495991b7852b855" + "ae2e9fb8c13aa4988f608d9cc137436e420ba162a49745cc0ab18340344ea623",
			"51dbd075c260fc63e20b1587cd43bf6c36eeb8fd86a1f17d5d0e3fe8ee5cf345",
		},
	}
}

// TestKnown holds each call against that chain.
func TestKnown(t *testing.T) {
	given := []struct {
		seg    int
		leaves sums
	}{{1, texts("a", "b", "c")}, {2, texts("d")}, {api.MaxSeg, nil}}
	var chain []api.Seal
	var prev [32]byte
	for i, want := range known() {
		s := of(t, given[i].seg, given[i].leaves, prev)
		b := seal.Bytes(s)
		if hex.EncodeToString(b) != want.bytes {
			t.Errorf("Bytes of seal %d: got %x, want %s", i, b, want.bytes)
		}
		if got, err := seal.Parse(b); got != s || err != api.OK {
			t.Errorf("Parse of seal %d: got %v, error %d", i, got, err)
		}
		prev = seal.Sum(s)
		if hex.EncodeToString(prev[:]) != want.sum {
			t.Errorf("Sum of seal %d: got %x, want %s", i, prev, want.sum)
		}
		if !seal.Holds(s, given[i].leaves) {
			t.Errorf("seal %d doesn't hold its leaves", i)
		}
		chain = append(chain, s)
	}
	if got := seal.Chain(chain); got != len(chain) {
		t.Errorf("Chain: got %d", got)
	}
}

// P6.1

func TestOfEachCount(t *testing.T) {
	l := leaves(1025)
	for _, n := range []int{0, 1, 2, 3, 4, 5, 6, 7, 8, 9, 15, 16, 17, 31, 32, 33, 100, 255, 256, 257, 1023, 1024, 1025} {
		for _, prev := range [][32]byte{{}, foreign(), full()} {
			got := of(t, 7, l[:n], prev)
			if want := (api.Seal{Seg: 7, Count: n, Root: merkle.Root(l[:n]), Prev: prev}); got != want {
				t.Errorf("%d leaves: got %v, want %v", n, got, want)
			}
		}
	}
}

func TestOfNoLeaves(t *testing.T) {
	want := api.Seal{Seg: 1, Root: sha256.Sum256(nil), Prev: foreign()}
	for _, l := range []sums{nil, {}, leaves(3)[:0], leaves(3)[3:]} {
		if got := of(t, 1, l, foreign()); got != want {
			t.Errorf("got %v, want %v", got, want)
		}
	}
}

func TestOfOneLeaf(t *testing.T) {
	for _, h := range [][32]byte{{}, full(), foreign(), leaves(1)[0]} {
		if got := of(t, 1, sums{h}, [32]byte{}); got != (api.Seal{Seg: 1, Count: 1, Root: h}) {
			t.Errorf("of %x: got %v", h, got)
		}
	}
}

func TestOfMany(t *testing.T) {
	l := leaves(100003)
	got := of(t, api.MaxSeg, l, full())
	if got.Count != len(l) || got.Root != merkle.Root(l) || got.Prev != full() || got.Seg != api.MaxSeg {
		t.Errorf("got %v", got)
	}
}

func TestOfEachSegment(t *testing.T) {
	l := leaves(5)
	for _, seg := range inside() {
		got, err := seal.Of(seg, l, foreign())
		if want := (api.Seal{Seg: seg, Count: 5, Root: merkle.Root(l), Prev: foreign()}); got != want || err != api.OK {
			t.Errorf("segment %d: got %v, error %d", seg, got, err)
		}
	}
}

func TestOfNoSegment(t *testing.T) {
	for _, seg := range outside() {
		for _, l := range []sums{nil, leaves(1), leaves(6)} {
			for _, prev := range [][32]byte{{}, foreign()} {
				if got, err := seal.Of(seg, l, prev); got != (api.Seal{}) || err != api.ErrRange {
					t.Errorf("segment %d, %d leaves: got %v, error %d", seg, len(l), got, err)
				}
			}
		}
	}
}

// P6.2

func TestBytesLayout(t *testing.T) {
	s := api.Seal{Seg: 0x01020304, Count: 0x05060708}
	for i := range s.Root {
		s.Root[i], s.Prev[i] = byte(9+i), byte(41+i)
	}
	got := seal.Bytes(s)
	if len(got) != 72 {
		t.Fatalf("%d bytes", len(got))
	}
	for i, c := range got {
		if c != byte(i+1) {
			t.Errorf("byte %d: got %d, want %d", i, c, i+1)
		}
	}
}

// Numbers that four bytes don't hold lose what is above, and are laid all the same.
func TestBytesOfEachNumber(t *testing.T) {
	for _, n := range bounds() {
		for _, s := range []api.Seal{
			{Seg: n, Count: 77, Root: foreign(), Prev: full()},
			{Seg: 77, Count: n, Root: full(), Prev: foreign()},
			{Seg: n, Count: n},
			{Seg: n, Count: -n},
		} {
			if got, want := seal.Bytes(s), bytesOf(s); !bytes.Equal(got, want) {
				t.Errorf("%d, %d: got %x, want %x", s.Seg, s.Count, got, want)
			}
		}
	}
	for n, want := range map[int][4]byte{
		0: {}, 1: {3: 1}, -1: {255, 255, 255, 255}, math.MinInt: {}, math.MaxInt: {255, 255, 255, 255},
		math.MaxUint32: {255, 255, 255, 255}, 1 << 32: {}, 1<<32 + 1: {3: 1}, 1 << 31: {128}, -1 << 31: {128},
	} {
		if got := seal.Bytes(api.Seal{Seg: n, Count: n}); [4]byte(got) != want || [4]byte(got[4:]) != want {
			t.Errorf("%d: got %v", n, got[:8])
		}
	}
}

func TestBytesOfNoughts(t *testing.T) {
	if got := seal.Bytes(api.Seal{}); !bytes.Equal(got, make([]byte, 72)) {
		t.Errorf("got %x", got)
	}
}

func TestParseOfBytes(t *testing.T) {
	for _, s := range drawn(1, 2000) {
		if got, err := seal.Parse(seal.Bytes(s)); got != s || err != api.OK {
			t.Errorf("got %v, error %d, want %v", got, err, s)
		}
	}
	for _, seg := range inside() {
		for _, count := range []int{0, 1, 255, 256, 65535, 65536, 1 << 24, math.MaxInt32, 1 << 31, math.MaxUint32} {
			s := api.Seal{Seg: seg, Count: count, Root: full()}
			if got, err := seal.Parse(bytesOf(s)); got != s || err != api.OK {
				t.Errorf("%d, %d: got %v, error %d", seg, count, got, err)
			}
		}
	}
}

func TestBytesOfParse(t *testing.T) {
	r := rand.New(rand.NewPCG(2, 6))
	for range 2000 {
		b := make([]byte, 72)
		for i := range b {
			b[i] = byte(r.Uint32())
		}
		binary.BigEndian.PutUint32(b, 1+r.Uint32N(api.MaxSeg))
		s, err := seal.Parse(b)
		if err != api.OK || !bytes.Equal(seal.Bytes(s), b) {
			t.Errorf("%x: got %v, error %d", b, s, err)
		}
	}
}

// refused fails the test unless the bytes are no seal's.
func refused(t *testing.T, what string, b []byte) {
	t.Helper()
	if got, err := seal.Parse(b); got != (api.Seal{}) || err != api.ErrSeal {
		t.Errorf("%s: got %v, error %d", what, got, err)
	}
}

func TestParseOfOtherLengths(t *testing.T) {
	b := bytesOf(drawn(3, 1)[0])
	long := slices.Concat(b, b, b)
	for n := range len(long) {
		if n == 72 {
			continue
		}
		// Behind the length stand more bytes, which are none of the text.
		refused(t, strconv.Itoa(n)+" bytes", long[:n])
		refused(t, strconv.Itoa(n)+" bytes of its own", slices.Clone(long[:n]))
	}
	refused(t, "nil", nil)
	refused(t, "the seal but its first byte", b[1:])
	refused(t, "the seal behind a nought", append([]byte{0}, b...))
	refused(t, "the seal and a nought", append(slices.Clone(b), 0))
	refused(t, "many bytes", bytes.Repeat(b, 10000))
}

func TestParseOfNoSegment(t *testing.T) {
	refused(t, "noughts", make([]byte, 72))
	refused(t, "ones", bytes.Repeat([]byte{255}, 72))
	for _, seg := range []uint32{0, api.MaxSeg + 1, api.MaxSeg + 2, 1 << 20, 1<<24 + 1, 1<<31 - 1, 1 << 31, 1<<31 + 1, math.MaxUint32 - 1, math.MaxUint32} {
		refused(t, "segment "+strconv.Itoa(int(seg)), bytesOf(api.Seal{Seg: int(seg), Count: 1, Root: foreign()}))
	}
	// Each of the four bytes is read, the highest of them ahead.
	for at := range 4 {
		for c := range 256 {
			b := make([]byte, 72)
			b[at] = byte(c)
			seg := c << (24 - 8*at)
			want, wantErr := api.Seal{Seg: seg}, api.OK
			if seg < 1 || seg > api.MaxSeg {
				want, wantErr = api.Seal{}, api.ErrSeal
			}
			if got, err := seal.Parse(b); got != want || err != wantErr {
				t.Errorf("byte %d is %d: got %v, error %d", at, c, got, err)
			}
		}
	}
}

// What Bytes has taken of a number stays taken: the text is that of another seal.
func TestParseOfNumbersBeyond(t *testing.T) {
	for _, s := range drawn(4, 50) {
		for _, more := range []int{1 << 32, -1 << 32, 5 << 32, math.MinInt} {
			far := s
			far.Seg += more
			far.Count += more
			if got, err := seal.Parse(seal.Bytes(far)); got != s || err != api.OK {
				t.Errorf("%d, %d: got %v, error %d", far.Seg, far.Count, got, err)
			}
		}
	}
}

// P6.3

func TestSum(t *testing.T) {
	for _, s := range append(drawn(5, 500), api.Seal{}) {
		if got, want := seal.Sum(s), sumOf(s); got != want {
			t.Errorf("%v: got %x, want %x", s, got, want)
		}
	}
	for _, n := range bounds() {
		s := api.Seal{Seg: n, Count: -n, Root: full(), Prev: foreign()}
		if got, want := seal.Sum(s), sumOf(s); got != want {
			t.Errorf("%d: got %x, want %x", n, got, want)
		}
	}
}

// changed are all seals that are that one with one field changed: each bit of it that its bytes tell.
func changed(s api.Seal) []api.Seal {
	var all []api.Seal
	for bit := range 32 {
		seg, count := s, s
		seg.Seg ^= 1 << bit
		count.Count ^= 1 << bit
		all = append(all, seg, count)
	}
	for bit := range 256 {
		root, prev := s, s
		root.Root = flipped(s.Root, bit)
		prev.Prev = flipped(s.Prev, bit)
		all = append(all, root, prev)
	}
	return all
}

func TestSumReadsEachBit(t *testing.T) {
	for _, s := range append(drawn(6, 3), api.Seal{}) {
		seen := map[[32]byte]bool{seal.Sum(s): true}
		for _, other := range changed(s) {
			h := seal.Sum(other)
			if seen[h] {
				t.Errorf("%v: its sum is another seal's", other)
			}
			seen[h] = true
		}
	}
	// The fields are not to be taken one for the other.
	s := api.Seal{Seg: 1, Count: 2, Root: foreign(), Prev: full()}
	if seal.Sum(s) == seal.Sum(api.Seal{Seg: 2, Count: 1, Root: foreign(), Prev: full()}) || seal.Sum(s) == seal.Sum(api.Seal{Seg: 1, Count: 2, Root: full(), Prev: foreign()}) {
		t.Error("swapped fields have one sum")
	}
}

// The rules of all layers

// hidden is a list of that many with others behind its length, and all of them.
func hidden(n int) (sums, sums) {
	all := leaves(n + 9)
	return all[:n], all
}

func TestNothingGivenIsChanged(t *testing.T) {
	for n := range 40 {
		l, all := hidden(n)
		s := of(t, 3, l, foreign())
		seal.Holds(s, l)
		seal.Holds(api.Seal{}, l)
		seal.Of(0, l, foreign())
		if !slices.Equal(all, leaves(n+9)) {
			t.Errorf("%d leaves: they were changed, or those behind them", n)
		}
	}
	for n := range 80 {
		b := bytes.Repeat([]byte{0, 1, 2, 3}, 40)
		given := slices.Clone(b)
		seal.Parse(b[:n])
		if !bytes.Equal(b, given) {
			t.Errorf("%d bytes: they were changed, or those behind them", n)
		}
	}
	for n := range 10 {
		chain, broken := seals(t, 10), seals(t, 10)
		broken[n].Prev = full()
		seal.Chain(chain[:n])
		seal.Chain(broken)
		broken[n].Prev = seals(t, 10)[n].Prev
		if !slices.Equal(chain, seals(t, 10)) || !slices.Equal(broken, chain) {
			t.Errorf("a chain of %d was changed, or what lies behind it", n)
		}
	}
	s := drawn(7, 1)[0]
	given := s
	clear(seal.Bytes(s))
	seal.Sum(s)
	if s != given {
		t.Error("a seal was changed")
	}
}

func TestWhatLiesBehindIsNotRead(t *testing.T) {
	for n := range 20 {
		l, all := hidden(n)
		s := of(t, 3, l, foreign())
		clear(all[n:])
		if of(t, 3, l, foreign()) != s || s.Count != n || s.Root != merkle.Root(leaves(n)) || !seal.Holds(s, l) {
			t.Errorf("%d leaves: what lies behind them is read", n)
		}
	}
	chain := seals(t, 9)
	for n := range chain {
		for at := n; at < len(chain); at++ {
			broken := slices.Clone(chain)
			clear(broken[at:])
			if got := seal.Chain(broken[:n]); got != n {
				t.Errorf("a chain of %d, broken at %d behind it: that is read: %d", n, at, got)
			}
		}
	}
	s := drawn(8, 1)[0]
	b := append(bytesOf(s), 1, 2, 3)
	if got, err := seal.Parse(b[:72]); got != s || err != api.OK {
		t.Errorf("a text: what lies behind it is read: %v, error %d", got, err)
	}
}

// What was answered stays, whatever becomes of what was given and of other answers.
func TestAnswersShareNothing(t *testing.T) {
	l := leaves(6)
	s := of(t, 3, l, foreign())
	clear(l)
	if s != of(t, 3, leaves(6), foreign()) {
		t.Error("Of shares memory with its leaves")
	}
	b := seal.Bytes(s)
	parsed, _ := seal.Parse(b)
	other := seal.Bytes(s)
	clear(other[:cap(other)])
	_ = append(other, 1, 2, 3)
	if !bytes.Equal(b, bytesOf(s)) {
		t.Error("two answers of Bytes share memory")
	}
	if _, err := seal.Parse(b); err != api.OK || !bytes.Equal(seal.Bytes(s), bytesOf(s)) {
		t.Error("what is done to an answer of Bytes is seen in a seal, or in the next answer")
	}
	clear(b[:cap(b)])
	if parsed != s {
		t.Error("Parse shares memory with its bytes")
	}
}

func TestAnswersHangOnArgumentsAlone(t *testing.T) {
	l, chain := leaves(13), seals(t, 13)
	s := of(t, 3, l, foreign())
	for n := range l {
		other := of(t, n+1, l[:n], full())
		seal.Sum(other)
		seal.Parse(seal.Bytes(other))
		seal.Chain(chain[n:])
		if of(t, 3, l, foreign()) != s || seal.Sum(s) != sumOf(s) || seal.Chain(chain) != len(chain) || !seal.Holds(s, l) || seal.Holds(other, l) {
			t.Fatalf("behind calls with %d leaves the answers are other ones", n)
		}
	}
}
