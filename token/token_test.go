package token_test

import (
	"slices"
	"strconv"
	"strings"
	"testing"

	"scriptorium/token"
)

// What words have, and the letters that are made small in them.
const (
	inWords = "abcdefghijklmnopqrstuvwxyz0123456789"
	large   = "ABCDEFGHIJKLMNOPQRSTUVWXYZ"
)

// nextTo are the bytes next to a, z, A, Z, 0 and 9 that stand in no word.
const nextTo = "`{@[/:"

// strange are texts that another rule of letters and digits would take for some, or make some of.
var strange = []string{"é", "É", "ß", "Ω", "д", "\u212a", "\u017f", "\u0130", "\u0131", "\uff21", "\uff41", "\uff11", "\u0663", "\u00b2", "\u00aa", "\u2163", "\u0301", "\U0001d41a", "\ufffd", "\xff", "\xc3", "\x80", "\xc1\xa1", "\xe1", "\xed\xa0\x80"}

// short is s as a test tells it.
func short(s string) string {
	if len(s) > 200 {
		return strconv.Quote(s[:100]) + " .. " + strconv.Quote(s[len(s)-50:]) + " (" + strconv.Itoa(len(s)) + " bytes)"
	}
	return strconv.Quote(s)
}

// told is how many words there are, and the first ones of them.
func told(l []string) string {
	var s strings.Builder
	s.WriteString(strconv.Itoa(len(l)) + " words")
	for _, w := range l[:min(len(l), 20)] {
		s.WriteString(" " + short(w))
	}
	return s.String()
}

// words fails the test unless Words answers just those of s, and each of them is a Term.
func words(t *testing.T, what, s string, want ...string) {
	t.Helper()
	got := token.Words([]byte(s))
	if !slices.Equal(got, want) {
		t.Errorf("%s: Words(%s): got %s, want %s", what, short(s), told(got), told(want))
	}
	areTerms(t, what, s, got)
}

// sets fails the test unless Set answers just those of s, and each of them is a Term.
func sets(t *testing.T, what, s string, want ...string) {
	t.Helper()
	got := token.Set([]byte(s))
	if !slices.Equal(got, want) {
		t.Errorf("%s: Set(%s): got %s, want %s", what, short(s), told(got), told(want))
	}
	areTerms(t, what, s, got)
}

func areTerms(t *testing.T, what, s string, l []string) {
	t.Helper()
	for _, w := range l {
		if !token.Term(w) {
			t.Errorf("%s: of %s there is %s, which is no Term", what, short(s), short(w))
		}
	}
}

// has fails the test unless Words answers those of s, and Set each of them once, rising.
func has(t *testing.T, what, s string, want ...string) {
	t.Helper()
	words(t, what, s, want...)
	set := slices.Clone(want)
	slices.Sort(set)
	sets(t, what, s, slices.Compact(set)...)
}

// term fails the test unless Term answers that of s; of a word it has itself as its only one.
func term(t *testing.T, what, s string, want bool) {
	t.Helper()
	if token.Term(s) != want {
		t.Errorf("%s: Term(%s): got %v", what, short(s), !want)
	}
	if got := token.Words([]byte(s)); slices.Equal(got, []string{s}) != want {
		t.Errorf("%s: Words(%s): got %s", what, short(s), told(got))
	}
}

// each tells each byte of s as a text.
func each(s string) []string { return strings.Split(s, "") }

// P12.1, with P12.2 of the same texts

func TestNoWord(t *testing.T) {
	has(t, "no byte at all", "")
	for c := range 256 {
		s := string([]byte{byte(c)})
		if !strings.Contains(inWords+large, s) {
			has(t, "none that stands in a word", s)
			has(t, "many of them", strings.Repeat(s, 100))
		}
	}
	for _, s := range append([]string{" ", "\r\n", "\r\n\r\n", ", .", "--", "_", "'", "<@>", " \t\x00"}, strange...) {
		has(t, "none that stands in a word", s)
		has(t, "twice", s+s)
	}
}

func TestOneWord(t *testing.T) {
	for _, s := range append(each(inWords), "word", "a1", "1a", "007", "x86", "abc123def", inWords[:32]) {
		for _, around := range append([]string{"", " ", "\r\n", ".", "...", "\x00", "-", "_"}, strange[:10]...) {
			has(t, "alone", s, s)
			has(t, "something ahead", around+s, s)
			has(t, "something behind", s+around, s)
			has(t, "something on either side", around+s+around, s)
		}
	}
}

func TestWordsOrdinary(t *testing.T) {
	has(t, "at the beginning and at the end", "first and last", "first", "and", "last")
	has(t, "at neither", " first and last ", "first", "and", "last")
	has(t, "a line", "Subject: Hello, World\r\n", "subject", "hello", "world")
	has(t, "an address", "<Jo.Doe+x@mail-1.example.org>", "jo", "doe", "x", "mail", "1", "example", "org")
	has(t, "a mark within a word", "don't e-mail snake_case 3.14 1,000", "don", "t", "e", "mail", "snake", "case", "3", "14", "1", "000")
	has(t, "each again", "a b a b a", "a", "b", "a", "b", "a")
	has(t, "their order", "z y x 2 1", "z", "y", "x", "2", "1")
	has(t, "words that some would leave out", "the and or not from to before after", "the", "and", "or", "not", "from", "to", "before", "after")
}

func TestWordsWithOneByteBetween(t *testing.T) {
	for c := range 256 {
		s := string([]byte{byte(c)})
		if strings.Contains(inWords+large, s) {
			continue
		}
		has(t, "one byte between", "ab"+s+"cd", "ab", "cd")
		has(t, "one byte between each", s+"a"+s+"B"+s+"0"+s, "a", "b", "0")
		has(t, "many bytes between", "ab"+strings.Repeat(s, 50)+"cd", "ab", "cd")
		has(t, "unlike bytes between", "ab"+s+"\n9 "+s+"cd", "ab", "9", "cd")
	}
}

func TestWordsWithOthersBetween(t *testing.T) {
	for _, s := range strange {
		has(t, "between", "ab"+s+"cd", "ab", "cd")
		has(t, "behind each", strings.Repeat("ab"+s, 3), "ab", "ab", "ab")
	}
	has(t, "a letter of two bytes", "caf\u00e9s", "caf", "s")
	has(t, "a mark behind a letter", "e\u0301t", "e", "t")
	has(t, "a letter whose small one is a k", "o\u212a", "o")
	has(t, "a letter whose large one is an S", "pa\u017ft", "pa", "t")
	has(t, "a letter whose small one is an i and a mark", "\u0130stanbul", "stanbul")
}

// Each byte alone: it is in a word, or parts two.
func TestWordsOfEachByte(t *testing.T) {
	for c := range 256 {
		s := string([]byte{byte(c)})
		switch at := strings.Index(large, s); {
		case strings.Contains(inWords, s):
			has(t, "small or a digit", s, s)
			has(t, "small or a digit within", "x"+s+"0", "x"+s+"0")
		case at >= 0:
			has(t, "large", s, inWords[at:at+1])
			has(t, "large within", "X"+s+"0", "x"+inWords[at:at+1]+"0")
		default:
			has(t, "none", s)
			has(t, "none within", "X"+s+"0", "x", "0")
		}
	}
}

func TestWordsNextToLettersAndDigits(t *testing.T) {
	for _, s := range each(nextTo) {
		has(t, "alone", s)
		for _, w := range each("azAZ09") {
			small := strings.ToLower(w)
			has(t, "ahead", s+w, small)
			has(t, "behind", w+s, small)
			has(t, "between", w+s+w, small, small)
		}
	}
	has(t, "all", "`a{z@A[Z/0:9", "a", "z", "a", "z", "0", "9")
}

func TestWordsOfBothSizes(t *testing.T) {
	has(t, "all small", inWords[:26], inWords[:26])
	has(t, "all large", large, inWords[:26])
	has(t, "mixed", "WoRd wOrD WORD word Word", "word", "word", "word", "word", "word")
	has(t, "each again in the other size", "a A B b", "a", "a", "b", "b")
	has(t, "with digits", "MP3 mp3 3D 3d A1B2 a1b2", "mp3", "mp3", "3d", "3d", "a1b2", "a1b2")
}

func TestWordsOfDigits(t *testing.T) {
	has(t, "all", "0123456789", "0123456789")
	has(t, "noughts in front", "0 00 007 7", "0", "00", "007", "7")
	has(t, "mixed with letters", "1a a1 1a1 a1a 1A A1", "1a", "a1", "1a1", "a1a", "1a", "a1")
	has(t, "no numbers", "-1 +1 1.5 1e9 0x1F", "1", "1", "1", "5", "1e9", "0x1f")
}

// runs are runs of n bytes: of one byte, of many, of both sizes.
func runs(n int) []string {
	return []string{strings.Repeat("a", n), strings.Repeat("0", n), strings.Repeat("Z", n), strings.Repeat(inWords, n/36+1)[:n], strings.Repeat("aB3", n)[:n], strings.Repeat(large+inWords, n/62+1)[:n]}
}

func TestLongRuns(t *testing.T) {
	for _, n := range []int{1, 2, 31, 32, 33, 34, 63, 64, 65, 96, 97, 100, 1000, 1 << 20} {
		for _, s := range runs(n) {
			want := strings.ToLower(s[:min(n, 32)])
			has(t, "alone", s, want)
			has(t, "between others", "x "+s+" y", "x", want, "y")
			has(t, "twice", s+"."+s, want, want)
			has(t, "a longer one behind", s+" "+s+"9", want, strings.ToLower((s + "9")[:min(n+1, 32)]))
		}
	}
}

// What stands behind the first 32 bytes is in no word, whatever it is.
func TestWhatStandsBehindTheFirst32(t *testing.T) {
	for _, s := range runs(32) {
		want := strings.ToLower(s)
		for c := range 256 {
			behind := string([]byte{byte(c)})
			if strings.Contains(inWords+large, behind) {
				has(t, "one byte more", s+behind, want)
				has(t, "many bytes more", s+strings.Repeat(behind, 32)+" x", want, "x")
			} else {
				has(t, "the run ends there", s+behind+"x", want, "x")
			}
		}
	}
}

func TestRunsAlikeInTheirFirst32(t *testing.T) {
	for _, s := range runs(32) {
		w := strings.ToLower(s)
		text := s + " " + s + "a " + s + "b " + s + strings.Repeat("c", 100) + " " + strings.ToUpper(s) + "D"
		words(t, "alike", text, w, w, w, w, w)
		sets(t, "alike", text, w)
	}
	a, b := strings.Repeat("a", 31), strings.Repeat("a", 32)
	words(t, "alike in their first 31", a+"0 "+a+"1 "+a+" "+b, a+"0", a+"1", a, b)
	sets(t, "alike in their first 31", b+" "+a+"1 "+a+"0 "+a, a, a+"0", a+"1", b)
}

func TestManyWords(t *testing.T) {
	const n = 1 << 16
	var want []string
	for i := range n {
		want = append(want, strconv.Itoa(i))
	}
	has(t, "all unlike", strings.Join(want, "\r\n"), want...)
	has(t, "all alike", strings.Repeat("Word, ", n), slices.Repeat([]string{"word"}, n)...)
}

// P12.2

func TestSetExample(t *testing.T) {
	sets(t, "example", "To be, or not to be!", "be", "not", "or", "to")
	words(t, "example", "To be, or not to be!", "to", "be", "or", "not", "to", "be")
}

func TestSetOfWordsThatComeAgain(t *testing.T) {
	sets(t, "alike", "a a a", "a")
	sets(t, "in another size", "Word word WORD wORD other Other", "other", "word")
	sets(t, "digits", "1 01 1 01", "01", "1")
	sets(t, "far from each other", "b "+strings.Repeat("a ", 1000)+"B", "a", "b")
}

func TestSetOfBeginnings(t *testing.T) {
	sets(t, "rising", "a ab abc abcd", "a", "ab", "abc", "abcd")
	sets(t, "falling", "abcd abc ab a", "a", "ab", "abc", "abcd")
	sets(t, "with others between", "b ab a abc aa 1 12 10 a1", "1", "10", "12", "a", "a1", "aa", "ab", "abc", "b")
	var text, want []string
	for n := 1; n <= 40; n++ {
		text = append([]string{strings.Repeat("X", n)}, text...)
		if n <= 32 {
			want = append(want, strings.Repeat("x", n))
		}
	}
	sets(t, "each length", strings.Join(text, " "), want...)
}

func TestSetsOrder(t *testing.T) {
	var all, back []string
	all = append(each("0123456789"), each(inWords[:26])...)
	for _, w := range all {
		back = append([]string{w}, back...)
	}
	sets(t, "digits ahead of letters", strings.Join(back, " "), all...)
	sets(t, "large letters as small ones", "b A 2 C 1 a B c", "1", "2", "a", "b", "c")
	sets(t, "large letters aren't ahead of small ones", "a B c D", "a", "b", "c", "d")
	sets(t, "digits by their bytes, not as numbers", "10 9 2 1 100 02", "02", "1", "10", "100", "2", "9")
	sets(t, "digits and letters mixed", "a1 1a aa 11 a 1 b1 1b", "1", "11", "1a", "1b", "a", "a1", "aa", "b1")
	sets(t, "not by their lengths", "b aaa aa ab", "aa", "aaa", "ab", "b")
}

// P12.3

func TestTermOrdinary(t *testing.T) {
	for _, s := range append(each(inWords), "be", "word", "a1", "1a", "007", "x86", "and", "or", "not", "from", inWords[:26], inWords[26:], inWords[4:]) {
		term(t, "a word", s, true)
	}
}

func TestTermNothing(t *testing.T) {
	term(t, "nothing", "", false)
}

func TestTermLengths(t *testing.T) {
	for n := 1; n < 100; n++ {
		for _, s := range runs(n) {
			s = strings.ToLower(s)
			term(t, "long", s, n <= 32)
			term(t, "long, with a large letter at its end", s[1:]+"A", false)
			term(t, "long, with a blank at its end", s[1:]+" ", false)
		}
	}
	for _, s := range runs(1 << 20) {
		term(t, "very long", s, false)
	}
	term(t, "very long, with a word at its beginning", "a"+strings.Repeat(" ", 1<<20), false)
	term(t, "32 bytes, fewer letters", strings.Repeat("é", 16), false)
}

func TestTermOfEachByte(t *testing.T) {
	for c := range 256 {
		s := string([]byte{byte(c)})
		want := strings.Contains(inWords, s)
		term(t, "alone", s, want)
		term(t, "at the beginning", s+"a", want)
		term(t, "at the end", "a"+s, want)
		term(t, "in the midst", "a"+s+"0", want)
		for _, n := range []int{31, 30} {
			long := strings.Repeat("z", n)
			term(t, "with many behind", s+long, want)
			term(t, "with many ahead", long+s, want)
		}
		term(t, "with too many behind", s+strings.Repeat("z", 32), false)
		term(t, "with too many ahead", strings.Repeat("z", 32)+s, false)
	}
}

func TestTermOthers(t *testing.T) {
	for _, s := range append([]string{"A", "aB", "Word", "WORD", " ", " a", "a ", "a b", "a-b", "a.b", "a_b", "a\n", "\ta", "a\x00", "\x00", "to be", "a@b", "(", "from:", "from:a@b", "-1", "1.5", "*", "a*"}, strange...) {
		term(t, "no word", s, false)
		term(t, "no word, with one ahead", "a"+s, false)
	}
	for _, s := range each(nextTo) {
		for _, w := range each("az09") {
			term(t, "next to a letter or a digit", s+w, false)
			term(t, "next to a letter or a digit", w+s, false)
			term(t, "next to a letter or a digit", w+s+w, false)
		}
	}
}
