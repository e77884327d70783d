package token_test

import (
	"math/rand/v2"
	"regexp"
	"slices"
	"strings"
	"testing"

	"scriptorium/token"
)

// What a run is, and what a word is, told by patterns: what the calls are held against.
var (
	aRun  = regexp.MustCompile(`[a-zA-Z0-9]+`)
	aWord = regexp.MustCompile(`\A[a-z0-9]{1,32}\z`)
)

// wordsOf is what the chapter says of Words, over again.
func wordsOf(s string) []string {
	var l []string
	for _, run := range aRun.FindAllString(s, -1) {
		l = append(l, strings.ToLower(run[:min(len(run), 32)]))
	}
	return l
}

// holds fails the test unless the calls answer of s what the chapter says.
func holds(t *testing.T, s string) {
	t.Helper()
	want := wordsOf(s)
	has(t, "a model", s, want...)
	term(t, "a model", s, aWord.MatchString(s))
	// What is put together from its words again has the same ones.
	has(t, "its words", strings.Join(want, "-"), want...)
}

// pieces are what texts are put together from.
var pieces = []string{"a", "Z", "0", " ", "\r\n", ".", "word", "Word", "WORD", "be", "bee", "é", "\u212a", "\xff", "\x80", "\x00", "`", "{", "@", "[", "/", ":", strings.Repeat("x", 31), strings.Repeat("Y", 32), "9" + strings.Repeat("z", 40), "e-mail", "1,000"}

// drawOf is n of those pieces, which look drawn by lot.
func drawOf(r *rand.Rand, from []string, n int) string {
	var s strings.Builder
	for range n {
		s.WriteString(from[r.IntN(len(from))])
	}
	return s.String()
}

// P1: any bytes.
func TestAnyBytes(t *testing.T) {
	r := rand.New(rand.NewPCG(12, 1))
	var all []string
	for c := range 256 {
		all = append(all, string([]byte{byte(c)}))
	}
	for _, from := range [][]string{pieces, pieces[:4], pieces[:6], each(nextTo + "azAZ09"), each(inWords + large), append(each(inWords+large), " "), all} {
		for range 3000 {
			holds(t, drawOf(r, from, r.IntN(20)))
		}
		for range 30 {
			holds(t, drawOf(r, from, 100+r.IntN(3000)))
		}
	}
}

// grown does do with s and with each text that is s and up to n of those pieces.
func grown(s string, n int, from []string, do func(string)) {
	do(s)
	if n == 0 {
		return
	}
	for _, p := range from {
		grown(s+p, n-1, from, do)
	}
}

func TestAllShortTexts(t *testing.T) {
	grown("", 6, []string{"a", "A", "1", " ", "é"}, func(s string) { holds(t, s) })
	grown(strings.Repeat("q", 30), 5, []string{"a", "Z", "9", "."}, func(s string) { holds(t, s) })
}

func TestAllPairs(t *testing.T) {
	for c := range 1 << 16 {
		pair := string([]byte{byte(c >> 8), byte(c)})
		holds(t, pair)
		holds(t, "a"+pair+"B")
	}
}

func TestLongTexts(t *testing.T) {
	const n = 1 << 17
	for _, p := range pieces {
		holds(t, strings.Repeat(p, n/len(p)))
		holds(t, strings.Repeat(p+" ", n/len(p)))
	}
}

func FuzzAnyBytes(f *testing.F) {
	for _, s := range append(slices.Clone(given), strange...) {
		f.Add(s)
	}
	f.Fuzz(holds)
}

// P2

// given are texts of each kind: without a word, with one, with many, with those that are too long, come again, are large.
var given = []string{
	"", " ", "a", "A", "word", "WORD", "To be, or not to be!", " be ", "b a b", strings.Repeat("a", 32), strings.Repeat("A", 33), strings.Repeat("aB ", 100), "First\r\n\r\nlast", "\xff\x00é", "not 2 BE",
}

// answers are all lists that the calls answer of b.
func answers(b []byte) [][]string {
	return [][]string{token.Words(b), token.Set(b)}
}

// wanted is what they must answer.
func wanted(s string) [][]string {
	l := wordsOf(s)
	set := slices.Clone(l)
	slices.Sort(set)
	return [][]string{l, slices.Compact(set)}
}

// What stands behind the bytes that are given would go on with the last word, or be another one.
var behindAll = []string{"s", "S", "0", " more", strings.Repeat("X", 40)}

// Neither what was given is changed, nor what lies behind its length; that isn't read either.
func TestArgumentsAreLeft(t *testing.T) {
	for _, s := range append(slices.Clone(given), strange...) {
		for _, behind := range behindAll {
			whole := []byte(s + behind + strings.Repeat("#", 100))
			for i, got := range answers(whole[:len(s)]) {
				if want := wanted(s)[i]; !slices.Equal(got, want) {
					t.Errorf("%s ahead of %s: answer %d: got %s, want %s", short(s), short(behind), i, told(got), told(want))
				}
			}
			if string(whole) != s+behind+strings.Repeat("#", 100) {
				t.Errorf("%s and %s were changed: %s", short(s), short(behind), short(string(whole)))
			}
		}
	}
}

// What was answered stays, whatever becomes of the memory in which the argument stood.
func TestAnswersShareNothingWithArguments(t *testing.T) {
	for _, s := range append(slices.Clone(given), strange...) {
		b := []byte(s)
		got := answers(b)
		for i := range b[:cap(b)] {
			b[:cap(b)][i] = '!'
		}
		for i, want := range wanted(s) {
			if !slices.Equal(got[i], want) {
				t.Errorf("%s: answer %d shares memory with it: got %s, want %s", short(s), i, told(got[i]), told(want))
			}
		}
	}
}

// What becomes of an answer changes neither what was given nor another answer, earlier or later.
func TestAnswersShareNothingWithEachOther(t *testing.T) {
	for _, s := range append(slices.Clone(given), strange...) {
		b := []byte(s)
		spoilt, kept := answers(b), answers(b)
		for _, l := range append(spoilt, answers(b)...) {
			for i := range l[:cap(l)] {
				l[:cap(l)][i] = "spoilt"
			}
		}
		kept = append(kept, answers(b)...)
		for i, got := range kept {
			if want := wanted(s)[i%2]; !slices.Equal(got, want) {
				t.Errorf("%s: answer %d shares memory with another: got %s, want %s", short(s), i, told(got), told(want))
			}
		}
		if string(b) != s {
			t.Errorf("%s was changed: %s", short(s), short(string(b)))
		}
	}
}

// P3

func TestNilIsNothing(t *testing.T) {
	for _, b := range [][]byte{nil, {}, []byte("word")[:0], make([]byte, 0, 10)} {
		for i, got := range answers(b) {
			if len(got) != 0 {
				t.Errorf("%#v: answer %d: got %s", b, i, told(got))
			}
		}
	}
}

// What a call answers hangs neither on those ahead nor on the order in which words are kept.
func TestAnswersHangOnArgumentsAlone(t *testing.T) {
	const text = "z y 9 8 a b To be, or not to be! 10 1 B A"
	for _, s := range append(slices.Clone(given), strange...) {
		for range 20 {
			answers([]byte(s))
			for i, got := range answers([]byte(text)) {
				if want := wanted(text)[i]; !slices.Equal(got, want) {
					t.Fatalf("behind %s: answer %d: got %s, want %s", short(s), i, told(got), told(want))
				}
			}
			term(t, "in turn", "be", true)
			term(t, "in turn", "Be", false)
		}
	}
}
