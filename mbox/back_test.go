package mbox_test

import (
	"bytes"
	"math"
	"math/rand/v2"
	"regexp"
	"slices"
	"strconv"
	"strings"
	"testing"
	"unsafe"

	"scriptorium/api"
	"scriptorium/mbox"
	"scriptorium/path"
)

// What is quoted, and what a letter's first line has behind its mark, told by patterns: what the calls are held against.
var (
	aMark     = regexp.MustCompile(`(?m)^(>*From )`)
	aQuote    = regexp.MustCompile(`(?m)^>(>*From )`)
	firstLine = regexp.MustCompile(`\A([^ ]+) (0|[1-9][0-9]{0,18})\z`)
)

// quoted is what the chapter says of Quote, over again.
func quoted(s string) string { return aMark.ReplaceAllString(s, ">$1") }

// unquoted is what the chapter says of Unquote, over again.
func unquoted(s string) string { return aQuote.ReplaceAllString(s, "$1") }

// found is what the chapter says of Parse, over again: the bytes are parted at all marks at once, each part then at its first end.
func found(s string) ([]api.Letter, bool) {
	if s == "" {
		return nil, true
	}
	parts := strings.Split("\n"+s, "\nFrom ")
	last := len(parts) - 1
	if last == 0 || parts[0] != "" || !strings.HasSuffix(s, "\n") {
		return nil, false
	}
	parts[last] = strings.TrimSuffix(parts[last], "\n")
	var l []api.Letter
	for _, p := range parts[1:] {
		first, body, ended := strings.Cut(p, "\n")
		m := firstLine.FindStringSubmatch(first)
		if !ended || m == nil || body != "" && body[len(body)-1] != '\n' || m[1] != "-" && !path.Mailbox(m[1]) {
			return nil, false
		}
		if len(m[2]) == 19 && m[2] > "9223372036854775807" {
			return nil, false
		}
		at := int64(0)
		for _, c := range m[2] {
			at = 10*at + int64(c-'0')
		}
		if m[1] == "-" {
			m[1] = ""
		}
		l = append(l, letter(m[1], at, unquoted(body)))
	}
	return l, true
}

// holds fails the test unless the calls answer of s what the chapter says, and of each other's answers what they must.
func holds(t *testing.T, s string) {
	t.Helper()
	quotes(t, "a model", s, quoted(s))
	unquotes(t, "a model", s, unquoted(s))
	l, ok := found(s)
	if ok {
		exports(t, "a model", s, l...)
	} else {
		parsesNone(t, "a model", s)
	}
	comesBack(t, letter("a@b", 5, s+"\n"))
	comesBack(t, api.Letter{}, letter("", 0, s+"\n"), letter("a@b", math.MaxInt64, s+"\n\n"))
	if s != "" && !strings.HasSuffix(s, "\n") {
		exportsNone(t, "a model", letter("a@b", 5, s))
	}
}

// comesBack fails the test unless Parse of Export of the letters is these.
func comesBack(t *testing.T, l ...api.Letter) {
	t.Helper()
	b, err := mbox.Export(l)
	if err != api.OK {
		t.Errorf("back: Export of %s: got %d", told(l), err)
	}
	parses(t, "back", string(b), l...)
}

// drawOf is n of those pieces, which look drawn by lot.
func drawOf(r *rand.Rand, from []string, n int) string {
	var s strings.Builder
	for range n {
		s.WriteString(from[r.IntN(len(from))])
	}
	return s.String()
}

// pieces are what bodies are put together from, letterPieces what looks like letters.
var (
	pieces       = []string{">", "From ", "\n", "From", " ", "a", "\nFrom ", ">From ", "\n>", "\r\n", "\r", "\x00", "\xff", "é", "a line of words", "F", ">>"}
	letterPieces = []string{"From ", "a@b", "-", " ", "0", "5", "\n", "\n\n", "From - 0\n", "From a@b 5\n", "From a@b 5\n\n", "From c@d 9223372036854775807\nx\n\n", "x\n", ">From x\n", "x", ">"}
)

// drawLetters is up to n letters, which look drawn by lot.
func drawLetters(r *rand.Rand, n int) []api.Letter {
	var l []api.Letter
	for range r.IntN(n + 1) {
		body := drawOf(r, pieces, r.IntN(30))
		if body != "" {
			body += "\n"
		}
		from := []string{"", "a@b", "-@b", "From@From", "a.b@x-y.org"}[r.IntN(5)]
		l = append(l, letter(from, r.Int64()>>r.IntN(63), body))
	}
	return l
}

// P10.4

func TestBackOfManyBodies(t *testing.T) {
	r := rand.New(rand.NewPCG(10, 4))
	for n := range 4000 {
		s := drawOf(r, pieces, n%100)
		if got := mbox.Unquote(mbox.Quote([]byte(s))); string(got) != s {
			t.Errorf("back: of %s: got %s", short(s), short(string(got)))
		}
		comesBack(t, letter("a@b", int64(n), s+"\n"), letter("", int64(n), s+"\n\n"))
	}
}

func TestBackOfManyLetters(t *testing.T) {
	r := rand.New(rand.NewPCG(10, 5))
	for range 4000 {
		l := drawLetters(r, 10)
		comesBack(t, l...)
		for _, x := range l {
			comesBack(t, x)
		}
	}
}

func TestBackOfEachByte(t *testing.T) {
	for c := range 256 {
		b := string([]byte{byte(c)})
		for _, s := range []string{"", b, b + b, "From " + b, b + "From ", ">" + b, b + ">From ", "From" + b, "a\n" + b, b + "\n", "\n\n" + b + "\n\n"} {
			if got := mbox.Unquote(mbox.Quote([]byte(s))); string(got) != s {
				t.Errorf("back: of %q: got %q", s, got)
			}
			comesBack(t, letter("a@b", int64(c), s+"\n"), letter("", 0, s+"\n"))
		}
	}
}

// Exports one behind the other are the export of all their letters.
func TestBackOneBehindTheOther(t *testing.T) {
	r := rand.New(rand.NewPCG(10, 6))
	for range 500 {
		l, m := drawLetters(r, 4), drawLetters(r, 4)
		a, _ := mbox.Export(l)
		b, _ := mbox.Export(m)
		exports(t, "one behind the other", string(a)+string(b), append(l, m...)...)
	}
}

// The rules of all layers

// P1: any bytes.
func TestAnyBytes(t *testing.T) {
	r := rand.New(rand.NewPCG(10, 1))
	var all []string
	for c := range 256 {
		all = append(all, string([]byte{byte(c)}))
	}
	for _, from := range [][]string{pieces, pieces[:3], pieces[:6], letterPieces, letterPieces[:7], letterPieces[6:11], all, append(slices.Repeat(letterPieces, 20), all...)} {
		for range 4000 {
			holds(t, drawOf(r, from, r.IntN(20)))
		}
		for range 30 {
			holds(t, drawOf(r, from, 100+r.IntN(2000)))
		}
	}
}

// What a change of one byte makes of an export is another one, or none.
func TestAnyChange(t *testing.T) {
	r := rand.New(rand.NewPCG(10, 2))
	for range 2000 {
		b, _ := mbox.Export(drawLetters(r, 3))
		s := string(b)
		at := r.IntN(len(s) + 1)
		holds(t, s[:at])
		holds(t, s[at:])
		holds(t, s[:at]+drawOf(r, letterPieces, 1)+s[at:])
		if at < len(s) {
			holds(t, s[:at]+s[at+1:])
			holds(t, s[:at]+drawOf(r, []string{"\n", " ", ">", "0", "-", "F", "\r"}, 1)+s[at+1:])
		}
	}
}

// P1: any letters.
func TestAnyLetters(t *testing.T) {
	r := rand.New(rand.NewPCG(10, 3))
	for range 4000 {
		l := drawLetters(r, 5)
		for i := range l {
			switch r.IntN(8) {
			case 0:
				l[i].From = drawOf(r, []string{"a", "@", ".", "-", " ", "\n", "b"}, r.IntN(6))
			case 1:
				l[i].At = int64(r.Uint64())
			case 2:
				l[i].Body = []byte(drawOf(r, pieces, r.IntN(10)))
			}
		}
		if slices.ContainsFunc(l, mayNotBe) {
			exportsNone(t, "a model", l...)
		} else {
			comesBack(t, l...)
		}
	}
}

func mayNotBe(x api.Letter) bool {
	s := string(x.Body)
	return x.From != "" && !path.Mailbox(x.From) || x.At < 0 || s != "" && s[len(s)-1] != '\n'
}

// grown does do with s and with each text that is s and up to n of those pieces.
func grown(s string, n int, from []string, do func(string)) {
	do(s)
	if n == 0 {
		return
	}
	for _, p := range from {
		grown(s+p, n-1, from, do)
	}
}

// Each text of up to six of those by which lines are told, and of those by which letters are.
func TestAllShortTexts(t *testing.T) {
	grown("", 6, []string{">", "From ", "\n", "From", "a"}, func(s string) { holds(t, s) })
	grown("", 7, []string{"From ", "a@b", " ", "0", "\n"}, func(s string) { holds(t, s) })
	grown("", 6, []string{"From - 0\n", "\n", "x\n", ">", "From "}, func(s string) { holds(t, s) })
}

func TestLongTexts(t *testing.T) {
	const n = 1 << 17
	for _, c := range append(slices.Clone(pieces), letterPieces...) {
		s := strings.Repeat(c, n/len(c))
		holds(t, s)
		holds(t, "From a@b 5\n"+s)
		holds(t, "From a@b "+s+"\n\n")
		holds(t, "From "+s+" 5\n\n")
	}
}

func FuzzAnyBytes(f *testing.F) {
	for _, s := range append(append(slices.Clone(plain), marked...), given...) {
		f.Add(s)
	}
	f.Fuzz(holds)
}

// P2

// given are exports, and what is none.
var given = []string{
	"", "\n", "a", "a\n", "From x", ">From x\n", ">>From x\nFrom y\n>From z", "From a@b 5\n>From x\n\n", "From - 0\n\n", "From - 0\nx\n\nFrom c@d 7\ny\n\n", "From a@b 5\nx\n\nFrom a@b 5\nx\n\nFrom - 0\n\n", "From a@b 5\nx\n", "From a@b 5\n\nFrom", "From a@b 5",
}

// lists are letters that may be exported, and some that may not.
func lists() [][]api.Letter {
	return [][]api.Letter{
		nil, {{}}, {letter("a@b", 5, "From x\n")}, {letter("a@b", 5, "x\n>From y\n"), {}, letter("", 7, "\n")}, {letter("a@b", 5, "x\n"), letter("a", 5, "x\n")}, {letter("a@b", 5, "x\n"), letter("", 5, "x")}, {letter("a@b", -1, "x\n")},
	}
}

// answers are all bytes that the calls answer of b, and of what they answer.
func answers(b []byte) [][]byte {
	all := [][]byte{mbox.Quote(b), mbox.Unquote(b)}
	l, _ := mbox.Parse(b)
	for _, x := range l {
		all = append(all, x.Body, unsafe.Slice(unsafe.StringData(x.From), len(x.From)))
	}
	again, _ := mbox.Export(l)
	return append(all, again)
}

// What stands behind the bytes that are given would end them, or go on with them.
var behindAll = []string{"\n", "\n\n", ">From x\n", "From - 0\n\n", "x", " ", "behind all"}

func TestArgumentsAreLeft(t *testing.T) {
	for _, s := range given {
		for _, behind := range behindAll {
			whole := []byte(s + behind + strings.Repeat("#", 100))
			b := whole[:len(s)]
			for _, got := range [][]byte{mbox.Quote(b), mbox.Unquote(b)} {
				fill(got)
			}
			l, _ := mbox.Parse(b)
			for _, x := range l {
				fill(x.Body)
			}
			if string(whole) != s+behind+strings.Repeat("#", 100) {
				t.Errorf("%q and %q were changed: %q", s, behind, whole)
			}
		}
	}
}

// fill writes over all of b, and over what lies behind its length.
func fill(b []byte) {
	for i := range b[:cap(b)] {
		b[:cap(b)][i] = '!'
	}
}

func TestLettersAreLeft(t *testing.T) {
	for i, l := range lists() {
		for _, behind := range behindAll {
			want := lists()[i]
			whole := make([]api.Letter, 0, len(l)+1)
			var bodies [][]byte
			for _, x := range l {
				body := append(bytes.Clone(x.Body), behind...)
				bodies = append(bodies, body)
				whole = append(whole, api.Letter{From: strings.Clone(x.From), At: x.At, Body: body[:len(x.Body)]})
			}
			whole = append(whole, letter("behind all", -1, "x"))
			b, err := mbox.Export(whole[:len(l)])
			if alone, e := mbox.Export(want); string(b) != string(alone) || err != e {
				t.Errorf("%s with %q behind: got %q, %d, want %q, %d", told(want), behind, b, err, alone, e)
			}
			fill(b)
			if !same(whole, append(want, letter("behind all", -1, "x"))) {
				t.Errorf("%s were changed: %s", told(want), told(whole))
			}
			for j, body := range bodies {
				if string(body) != string(want[j].Body)+behind {
					t.Errorf("%q and %q were changed: %q", want[j].Body, behind, body)
				}
			}
		}
	}
}

// What was answered stays, whatever becomes of the memory in which the argument stood.
func TestAnswersShareNothingWithArguments(t *testing.T) {
	for _, s := range given {
		b := []byte(s)
		quote, unquote := mbox.Quote(b), mbox.Unquote(b)
		l, _ := mbox.Parse(b)
		fill(b)
		if string(quote) != quoted(s) || string(unquote) != unquoted(s) {
			t.Errorf("%q: Quote, Unquote share memory with it: got %q, %q", s, quote, unquote)
		}
		if want, _ := found(s); !same(l, want) {
			t.Errorf("%q: Parse shares memory with it: got %s", s, told(l))
		}
	}
	for i, l := range lists() {
		b, _ := mbox.Export(l)
		for _, x := range l {
			fill(x.Body)
		}
		clear(l)
		if want, _ := mbox.Export(lists()[i]); string(b) != string(want) {
			t.Errorf("%s: Export shares memory with them: got %q", told(lists()[i]), b)
		}
	}
}

// overlap is whether two lists share memory, that behind their lengths with it.
func overlap(a, b []byte) bool {
	if cap(a) == 0 || cap(b) == 0 {
		return false
	}
	x, y := uintptr(unsafe.Pointer(unsafe.SliceData(a))), uintptr(unsafe.Pointer(unsafe.SliceData(b)))
	return x < y+uintptr(cap(b)) && y < x+uintptr(cap(a))
}

func TestAnswersShareNothingWithEachOther(t *testing.T) {
	for _, s := range given {
		b := []byte(s)
		all := append(answers(b), answers(b)...)
		for i, x := range all {
			if overlap(x, b) {
				t.Errorf("%q: answer %d shares memory with it", s, i)
			}
			for j, y := range all[:i] {
				if overlap(x, y) {
					t.Errorf("%q: answers %d and %d share memory", s, i, j)
				}
			}
		}
	}
}

// What lies behind a list's length is no part of it, though it would end it, or quote it.
func TestWhatLiesBehindIsNotRead(t *testing.T) {
	for _, s := range given {
		whole := []byte(s + "From a@b 5\n>From x\n\n")
		for n := range len(whole) + 1 {
			alone := string(whole[:n])
			if got := mbox.Quote(whole[:n]); string(got) != quoted(alone) {
				t.Errorf("Quote(%q): got %q", alone, got)
			}
			if got := mbox.Unquote(whole[:n]); string(got) != unquoted(alone) {
				t.Errorf("Unquote(%q): got %q", alone, got)
			}
			want, ok := found(alone)
			if l, err := mbox.Parse(whole[:n]); !same(l, want) || ok != (err == api.OK) {
				t.Errorf("Parse(%q): got %s, %d", alone, told(l), err)
			}
		}
	}
}

// P3

func TestNilIsNothing(t *testing.T) {
	for _, b := range [][]byte{nil, {}, []byte("From x")[:0], make([]byte, 0, 10)} {
		if q, u := mbox.Quote(b), mbox.Unquote(b); len(q) != 0 || len(u) != 0 {
			t.Errorf("%#v: got %q, %q", b, q, u)
		}
		if l, err := mbox.Parse(b); len(l) != 0 || err != api.OK {
			t.Errorf("%#v: Parse: got %s, %d", b, told(l), err)
		}
		exports(t, "a body", "From - 0\n\nFrom a@b 1\n\n", api.Letter{Body: b}, api.Letter{From: "a@b", At: 1, Body: b})
	}
	for _, l := range [][]api.Letter{nil, {}, {{At: -1}}, make([]api.Letter, 0, 10)} {
		exports(t, "no letter", "", l[:0]...)
	}
}

// What a call answers doesn't hang on those ahead, nor on what became of their answers.
func TestAnswersHangOnArgumentsAlone(t *testing.T) {
	for i, s := range given {
		for _, got := range [][]byte{mbox.Quote([]byte(s)), mbox.Unquote([]byte(s))} {
			fill(got)
		}
		l, _ := mbox.Parse([]byte(s))
		for _, x := range l {
			fill(x.Body)
		}
		clear(l)
		b, _ := mbox.Export(lists()[i%len(lists())])
		fill(b)
		holds(t, "From a@b 5\n>From x\n\n")
		holds(t, "")
		holds(t, "From a@b "+strconv.Itoa(i)+"\n")
		holds(t, s)
	}
}
