package digest_test

import (
	"bytes"
	"crypto/sha256"
	"encoding/hex"
	"math/rand/v2"
	"slices"
	"strings"
	"testing"

	"scriptorium/digest"
)

// noBytes is the sum of no bytes.
const noBytes = "e3b0c44298fc1c149afbf4c8996fb92427ae41e4649b934ca495991b7852b855"

// ofABC is the sum of the example.
const ofABC = "ba7816bf8f01cfea414140de5dae2223b00361a396177a9cb410ff61f20015ad"

// Two texts of the standard: one that just doesn't fit in a block, one that doesn't in two.
const (
	fiftySix   = "abcdbcdecdefdefgefghfghighijhijkijkljklmklmnlmnomnopnopq"
	aHundred12 = "abcdefghbcdefghicdefghijdefghijkefghijklfghijklmghijklmnhijklmnoijklmnopjklmnopqklmnopqrlmnopqrsmnopqrstnopqrstu"
)

// drawn is n bytes that look drawn by lot, the same in each run.
func drawn(seed uint64, n int) []byte {
	r := rand.New(rand.NewPCG(seed, 4))
	b := make([]byte, n)
	for i := range b {
		b[i] = byte(r.Uint32())
	}
	return b
}

// sums fails the test unless Sum of b is that text's sum.
func sums(t *testing.T, b []byte, want string) {
	t.Helper()
	if h := digest.Sum(b); hex.EncodeToString(h[:]) != want {
		t.Errorf("Sum of %d bytes: got %x, want %s", len(b), h, want)
	}
}

// joins fails the test unless Join of the parts is the sum of want.
func joins(t *testing.T, what string, want []byte, parts ...[]byte) {
	t.Helper()
	if got := digest.Join(parts...); got != sha256.Sum256(want) {
		t.Errorf("%s: Join of %d parts: got %x, want %x", what, len(parts), got, sha256.Sum256(want))
	}
}

// refused fails the test unless Parse says that the text is none, and answers nothing.
func refused(t *testing.T, what, s string) {
	t.Helper()
	if h, ok := digest.Parse(s); ok || h != [32]byte{} {
		t.Errorf("%s: Parse(%q): got %x, %v", what, s, h, ok)
	}
}

// P4.1

func TestSumKnown(t *testing.T) {
	for s, want := range map[string]string{
		"":         noBytes,
		"abc":      ofABC,
		"a":        "ca978112ca1bbdcafac231b39a23dc4da786eff8147c4e72b9807785afee48bb",
		"\x00":     "6e340b9cffb37a989ca544e6bb780a2c78901d3fb33738768511a30617afa01d",
		"\xbd":     "68325720aabd7c82f30f554b313d0570c95accbb7dc4b5aae11204c08ffe732b",
		fiftySix:   "248d6a61d20638b8e5c026930c3e6039a33ce45964ff2167f6ecedd419db06c1",
		aHundred12: "cf5b16a778af8380036ce59e7b0492370b249b11e8f07a51afac45037afee9d1",
	} {
		sums(t, []byte(s), want)
	}
}

func TestSumOfNothing(t *testing.T) {
	for _, b := range [][]byte{nil, {}, []byte("abc")[:0], []byte("abc")[3:]} {
		sums(t, b, noBytes)
	}
}

// At 55 bytes the length just fits in the last block, from 56 on it doesn't.
func TestSumAtABlocksEnd(t *testing.T) {
	for n, want := range map[int]string{
		55:      "9f4390f8d30c2dd92ec9f095b65e2b9ae9b0a925a5258e241c9f1e910f734318",
		56:      "b35439a4ac6f0948b6d6f9e3c6af0f5f590ce20f1bde7090ef7970686ec6738a",
		57:      "f13b2d724659eb3bf47f2dd6af1accc87b81f09f59f2b75e5c0bed6589dfe8c6",
		63:      "7d3e74a05d7db15bce4ad9ec0658ea98e3f06eeecf16b4c6fff2da457ddc2f34",
		64:      "ffe054fe7ae0cb6dc65c3af9b61d5209f439851db43d0ba5997337df154668eb",
		65:      "635361c48bb9eab14198e76ea8ab7f1a41685d6ad62aa9146d301d4f17eb0ae0",
		119:     "31eba51c313a5c08226adf18d4a359cfdfd8d2e816b13f4af952f7ea6584dcfb",
		120:     "2f3d335432c70b580af0e8e1b3674a7c020d683aa5f73aaaedfdc55af904c21c",
		127:     "c57e9278af78fa3cab38667bef4ce29d783787a2f731d4e12200270f0c32320a",
		128:     "6836cf13bac400e9105071cd6af47084dfacad4e5e302c94bfed24e013afb73e",
		183:     "a88d44a2940a3a2fc363304926d263bf271afb562bab5640cb0e81f5e84320a3",
		184:     "8b1b7967cef5b2f2036b25c6a393e37bd774a7cbde7be79bb443d26bf0a90c86",
		1000000: "cdc76e5c9914fb9281a1c7e284d73e67f1809a48a497200e046d39ccc7112cd0",
	} {
		sums(t, bytes.Repeat([]byte{'a'}, n), want)
	}
}

func TestSumOfEachLength(t *testing.T) {
	const most = 20 * 64
	for _, b := range [][]byte{make([]byte, most), bytes.Repeat([]byte{255}, most), bytes.Repeat([]byte{128}, most), drawn(1, most)} {
		for n := range most + 1 {
			if got, want := digest.Sum(b[:n]), sha256.Sum256(b[:n]); got != want {
				t.Errorf("%d bytes of %d: got %x, want %x", n, b[0], got, want)
			}
		}
	}
}

func TestSumOfEachByte(t *testing.T) {
	for c := range 256 {
		for _, n := range []int{1, 3, 55, 64, 100} {
			b := bytes.Repeat([]byte{byte(c)}, n)
			if got, want := digest.Sum(b), sha256.Sum256(b); got != want {
				t.Errorf("%d bytes %d: got %x, want %x", n, c, got, want)
			}
		}
	}
}

// Each bit of each place counts: so no two of these have one sum.
func TestSumWithEachBitTurned(t *testing.T) {
	b := drawn(2, 150)
	seen := map[[32]byte]int{digest.Sum(b): -1}
	for bit := range 8 * len(b) {
		b[bit/8] ^= 1 << (bit % 8)
		h := digest.Sum(b)
		if old, ok := seen[h]; ok || h != sha256.Sum256(b) {
			t.Errorf("bit %d: got %x, as of %d, want %x", bit, h, old, sha256.Sum256(b))
		}
		seen[h] = bit
		b[bit/8] ^= 1 << (bit % 8)
	}
}

// Lengths at which the number of bits takes one byte more.
func TestSumOfLongTexts(t *testing.T) {
	b := drawn(3, 1<<21+1)
	for _, n := range []int{31, 32, 33, 1<<13 - 1, 1 << 13, 1<<13 + 1, 65535, 65536, 500000, 999999, 1000000, 1000001, 1<<21 - 1, 1 << 21, 1<<21 + 1} {
		if got, want := digest.Sum(b[:n]), sha256.Sum256(b[:n]); got != want {
			t.Errorf("%d bytes: got %x, want %x", n, got, want)
		}
	}
}

// From 2^29 bytes on the number of bits has more than 32 bits of its own.
func TestJoinAboveTwoToThe32Bits(t *testing.T) {
	part := drawn(4, 1<<20)
	parts := append(slices.Repeat([][]byte{part}, 512), part[:3])
	want := sha256.New()
	for _, p := range parts {
		want.Write(p)
	}
	if h := digest.Join(parts...); !bytes.Equal(h[:], want.Sum(nil)) {
		t.Errorf("got %x, want %x", h, want.Sum(nil))
	}
}

// P4.2

func TestJoinOfNothing(t *testing.T) {
	joins(t, "no parts", nil)
	joins(t, "a nil list", nil, [][]byte(nil)...)
	joins(t, "an empty list", nil, [][]byte{}...)
	joins(t, "a nil part", nil, nil)
	joins(t, "an empty part", nil, []byte{})
	joins(t, "empty parts", nil, nil, []byte{}, []byte("abc")[:0], nil)
	if got := digest.Show(digest.Join()); got != noBytes {
		t.Errorf("no parts: got %s", got)
	}
}

func TestJoinOfOne(t *testing.T) {
	for n := range 200 {
		b := drawn(5, n)
		joins(t, "one", b, b)
		if got, want := digest.Join(b), digest.Sum(b); got != want {
			t.Errorf("%d bytes: got %x, Sum is %x", n, got, want)
		}
	}
}

func TestJoinWithEmptyParts(t *testing.T) {
	abc := []byte("abc")
	joins(t, "ahead", abc, nil, abc)
	joins(t, "behind", abc, abc, []byte{})
	joins(t, "between", abc, abc[:1], nil, []byte{}, abc[1:2], nil, abc[2:])
	block := drawn(6, 64)
	joins(t, "behind a block", block, block, nil)
	joins(t, "between blocks", append(bytes.Clone(block), block...), block, nil, []byte{}, block)
}

// Each way to cut a text of that length in two, and in three.
func TestJoinCut(t *testing.T) {
	for _, n := range []int{1, 2, 3, 55, 56, 63, 64, 65, 119, 120, 128, 130} {
		b := drawn(7, n)
		for i := range n + 1 {
			joins(t, "in two", b, b[:i], b[i:])
			for j := i; j <= n; j += 7 {
				joins(t, "in three", b, b[:i], b[i:j], b[j:])
			}
		}
	}
}

func TestJoinOfManyParts(t *testing.T) {
	b := drawn(8, 1000)
	r := rand.New(rand.NewPCG(8, 8))
	for most := 1; most <= 200; most++ {
		var parts [][]byte
		for rest := b; len(rest) > 0; {
			n := min(r.IntN(most+1), len(rest))
			parts = append(parts, rest[:n])
			rest = rest[n:]
		}
		joins(t, "many", b, parts...)
	}
}

// The order counts, and a part may come again.
func TestJoinOrder(t *testing.T) {
	a, b := []byte("first"), []byte("second")
	joins(t, "one way", []byte("firstsecond"), a, b)
	joins(t, "the other way", []byte("secondfirst"), b, a)
	joins(t, "twice", []byte("firstfirst"), a, a)
	joins(t, "a piece of another", []byte("firstirs"), a, a[1:4])
}

// P4.3

func TestShow(t *testing.T) {
	var rising [32]byte
	for i := range rising {
		rising[i] = byte(i)
	}
	for _, x := range []struct {
		h    [32]byte
		want string
	}{
		{[32]byte{}, strings.Repeat("0", 64)},
		{[32]byte(bytes.Repeat([]byte{255}, 32)), strings.Repeat("f", 64)},
		{[32]byte{0x0a, 0xb0}, "0ab0" + strings.Repeat("0", 60)},
		{[32]byte{31: 0x1f}, strings.Repeat("0", 62) + "1f"},
		{rising, "000102030405060708090a0b0c0d0e0f101112131415161718191a1b1c1d1e1f"},
		{digest.Sum([]byte("abc")), ofABC},
	} {
		if got := digest.Show(x.h); got != x.want {
			t.Errorf("Show(%x): got %q, want %q", x.h, got, x.want)
		}
	}
}

func TestShowEachByteAtEachPlace(t *testing.T) {
	for c := range 256 {
		for i := range 32 {
			h := [32]byte(drawn(9, 32))
			h[i] = byte(c)
			if got := digest.Show(h); got != hex.EncodeToString(h[:]) {
				t.Errorf("Show(%x): got %q", h, got)
			}
		}
	}
}

func TestParse(t *testing.T) {
	for _, s := range []string{ofABC, noBytes, strings.Repeat("0", 64), strings.Repeat("f", 64), strings.Repeat("0123456789abcdef", 4), strings.Repeat("9a", 32)} {
		want, err := hex.DecodeString(s)
		if err != nil {
			t.Fatal(err)
		}
		if h, ok := digest.Parse(s); !ok || !bytes.Equal(h[:], want) {
			t.Errorf("Parse(%q): got %x, %v", s, h, ok)
		}
	}
}

func TestParseTakesWhatShowSays(t *testing.T) {
	for seed := range uint64(300) {
		h := [32]byte(drawn(seed, 32))
		s := digest.Show(h)
		got, ok := digest.Parse(s)
		if !ok || got != h || digest.Show(got) != s {
			t.Errorf("Parse(%q): got %x, %v", s, got, ok)
		}
	}
}

func TestParseOfAnotherLength(t *testing.T) {
	long := strings.Repeat(ofABC, 4)
	for n := range long {
		if n != 64 {
			refused(t, "another length", long[:n])
		}
	}
	refused(t, "all", long)
	for _, s := range []string{" " + ofABC, ofABC + " ", ofABC + "\n", ofABC + "\x00", "0x" + ofABC, "\"" + ofABC + "\"", "0" + ofABC, "0x" + ofABC[2:]} {
		refused(t, "something beside it", s)
	}
}

// Of the 256 bytes just sixteen are digits, at every place.
func TestParseOfOtherSigns(t *testing.T) {
	for c := range 256 {
		for i := range 64 {
			b := []byte(ofABC)
			b[i] = byte(c)
			digit := c >= '0' && c <= '9' || c >= 'a' && c <= 'f'
			if !digit {
				refused(t, "another sign", string(b))
			} else if h, ok := digest.Parse(string(b)); !ok || digest.Show(h) != string(b) {
				t.Errorf("Parse(%q): got %x, %v", b, h, ok)
			}
		}
	}
}

func TestParseOfGreatLetters(t *testing.T) {
	refused(t, "all great", strings.ToUpper(ofABC))
	refused(t, "great letters alone", strings.Repeat("ABCDEF00", 8))
	for i := range ofABC {
		great := ofABC[:i] + strings.ToUpper(ofABC[i:i+1]) + ofABC[i+1:]
		if great != ofABC {
			refused(t, "one great", great)
		}
	}
}

// It is bytes that are counted, not letters.
func TestParseOfLettersOfMoreBytes(t *testing.T) {
	refused(t, "64 bytes", ofABC[:62]+"é")
	refused(t, "64 letters", ofABC[:63]+"é")
	refused(t, "64 bytes of wide digits and others", strings.Repeat("０", 21)+"0")
	refused(t, "64 wide digits", strings.Repeat("０", 64))
}

// The rules of all layers

// hidden is those bytes with others behind their length, and all of them.
func hidden(seed uint64, n int) ([]byte, []byte) {
	all := drawn(seed, n+100)
	return all[:n], all
}

func TestNothingGivenIsChanged(t *testing.T) {
	for _, n := range []int{0, 1, 55, 56, 63, 64, 65, 119, 120, 127, 128, 500} {
		b, all := hidden(10, n)
		c, others := hidden(11, n)
		parts := [][]byte{b, c, nil, {7}}
		digest.Sum(b)
		digest.Join(b, c)
		digest.Join(parts[:3]...)
		if !bytes.Equal(all, drawn(10, n+100)) || !bytes.Equal(others, drawn(11, n+100)) {
			t.Errorf("%d bytes: they were changed, or those behind them", n)
		}
		if len(parts) != 4 || !bytes.Equal(parts[0], b) || !bytes.Equal(parts[1], c) || parts[2] != nil || string(parts[3]) != "\x07" {
			t.Errorf("%d bytes: the list was changed", n)
		}
	}
}

func TestWhatLiesBehindIsNotRead(t *testing.T) {
	for _, n := range []int{0, 1, 55, 56, 63, 64, 65, 128, 200} {
		b, all := hidden(12, n)
		parts := [][]byte{b, b, []byte("behind the list's length")}[:2]
		sum, joined := digest.Sum(b), digest.Join(parts...)
		for i := n; i < len(all); i++ {
			all[i] ^= 255
		}
		if digest.Sum(b) != sum || digest.Join(parts...) != joined || sum != sha256.Sum256(b) || joined != sha256.Sum256(append(bytes.Clone(b), b...)) {
			t.Errorf("%d bytes: what lies behind them is read", n)
		}
	}
}

// What was answered stays, whatever becomes of what was given and whatever is asked next.
func TestAnswersStandAlone(t *testing.T) {
	b := []byte("abc")
	parts := [][]byte{b[:1], b[1:]}
	sum, joined := digest.Sum(b), digest.Join(parts...)
	h := sum
	text := digest.Show(h)
	parsed, _ := digest.Parse(text)
	clear(b)
	clear(parts)
	clear(h[:])
	digest.Sum([]byte("another"))
	digest.Join([]byte("an"), []byte("other"))
	digest.Show(digest.Sum([]byte("another")))
	digest.Parse(noBytes)
	for what, got := range map[string]string{"Sum": hex.EncodeToString(sum[:]), "Join": hex.EncodeToString(joined[:]), "Show": text, "Parse": hex.EncodeToString(parsed[:])} {
		if got != ofABC {
			t.Errorf("%s: got %s", what, got)
		}
	}
	clear(parsed[:])
	if again, ok := digest.Parse(text); !ok || again != sum {
		t.Errorf("Parse again: got %x, %v", again, ok)
	}
}

func TestAnswersHangOnArgumentsAlone(t *testing.T) {
	b := drawn(13, 300)
	want := sha256.Sum256(b)
	for i := range 300 {
		digest.Sum(b[:i])
		digest.Join(b[i:], b[:i])
		digest.Parse(string(b[:64]))
		if digest.Sum(b) != want || digest.Join(b[:i], b[i:]) != want {
			t.Fatalf("behind %d other calls it is another sum", i)
		}
	}
	if digest.Sum(nil) != digest.Sum([]byte{}) || digest.Join(nil, b) != digest.Join([]byte{}, b) {
		t.Error("nil and empty are not the same")
	}
}
