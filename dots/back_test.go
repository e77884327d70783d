package dots_test

import (
	"bytes"
	"math/rand/v2"
	"regexp"
	"slices"
	"strings"
	"testing"
	"unsafe"

	"scriptorium/dots"
)

// What is whole, and what has an end, told by patterns: what the calls are held against.
var (
	aWhole = regexp.MustCompile(`(?s)\A(?:.*\r\n)?\z`)
	anEnd  = regexp.MustCompile(`\A\.\r\n|\r\n\.\r\n`)
)

// closed is what the chapter says of Close, over again.
func closed(s string) string {
	if aWhole.MatchString(s) {
		return s
	}
	return s + "\r\n"
}

// stuffed is what the chapter says of Stuff, over again: a line begins behind an end, and the first one as if it did.
func stuffed(s string) string {
	return strings.ReplaceAll("\r\n"+closed(s), "\r\n.", "\r\n..")[2:] + ".\r\n"
}

// scanned is what the chapter says of Scan, over again: what has an end is parted there, whole, and its lines then.
func scanned(s string) (string, string, bool) {
	at := anEnd.FindStringIndex(s)
	if at == nil {
		return "", s, false
	}
	return strings.ReplaceAll("\r\n"+s[:at[1]-3], "\r\n.", "\r\n")[2:], s[at[1]:], true
}

// holds fails the test unless the calls answer of s what the chapter says, and of each other's answers what they must.
func holds(t *testing.T, s string) {
	t.Helper()
	closes(t, "a model", s, closed(s))
	stuffs(t, "a model", s, stuffed(s))
	if text, rest, ok := scanned(s); ok {
		scans(t, "a model", s, text, rest)
	} else {
		scansNone(t, "a model", s)
	}
	comesBack(t, s, "")
	comesBack(t, s, s)
}

// comesBack fails the test unless Scan of Stuff of s, with those bytes behind it, is Close of s and these.
func comesBack(t *testing.T, s, behind string) {
	t.Helper()
	scans(t, "back", string(dots.Stuff([]byte(s)))+behind, string(dots.Close([]byte(s))), behind)
}

// drawOf is n of those pieces, which look drawn by lot.
func drawOf(r *rand.Rand, from []string, n int) string {
	var s strings.Builder
	for range n {
		s.WriteString(from[r.IntN(len(from))])
	}
	return s.String()
}

// pieces are what messages are put together from.
var pieces = []string{".", "\r", "\n", "\r\n", "a", "\r\n.", ".\r\n", "\r\n.\r\n", "..", " ", "\x00", "\xff", "é", "\n.", "\r.", "a line of words"}

// P9.5

func TestBack(t *testing.T) {
	for _, s := range messages {
		for _, behind := range append(slices.Clone(behinds), messages...) {
			comesBack(t, s, behind)
		}
	}
}

func TestBackOfEachByte(t *testing.T) {
	for c := range 256 {
		b := string([]byte{byte(c)})
		for _, s := range []string{"", b, b + b, b + ".", "." + b, "a\r\n" + b, b + "\r\n", "a\r" + b, "a\n" + b, "\r\n." + b + "\r\n"} {
			for _, behind := range []string{"", b, b + b, "." + b, "\r\n" + b, b + "\r\n.\r\n"} {
				comesBack(t, s, behind)
			}
		}
	}
}

func TestBackOfManyMessages(t *testing.T) {
	r := rand.New(rand.NewPCG(9, 5))
	for n := range 4000 {
		comesBack(t, drawOf(r, pieces, n%100), drawOf(r, pieces, r.IntN(20)))
	}
}

// Several messages, one behind the other, come back one by one.
func TestBackOneBehindTheOther(t *testing.T) {
	var wire []byte
	for _, s := range messages {
		wire = append(wire, dots.Stuff([]byte(s))...)
	}
	for _, s := range messages {
		text, rest, ok := dots.Scan(wire)
		if !ok || string(text) != closed(s) {
			t.Fatalf("of %s: got %s, %v", short(s), short(string(text)), ok)
		}
		wire = rest
	}
	if len(wire) != 0 {
		t.Errorf("left: %q", wire)
	}
}

// The rules of all layers

// P1: any bytes.
func TestAnyBytes(t *testing.T) {
	r := rand.New(rand.NewPCG(9, 1))
	var all []string
	for c := range 256 {
		all = append(all, string([]byte{byte(c)}))
	}
	for _, from := range [][]string{pieces, pieces[:4], pieces[:5], all, append(slices.Repeat(pieces[:4], 20), all...)} {
		for range 4000 {
			holds(t, drawOf(r, from, r.IntN(20)))
		}
		for range 30 {
			holds(t, drawOf(r, from, 100+r.IntN(3000)))
		}
	}
}

// grown does do with s and with each text that is s and up to n of those pieces.
func grown(s string, n int, from []string, do func(string)) {
	do(s)
	if n == 0 {
		return
	}
	for _, p := range from {
		grown(s+p, n-1, from, do)
	}
}

// Each text of up to seven of those by which lines are told.
func TestAllShortTexts(t *testing.T) {
	grown("", 7, []string{".", "\r\n", "\r", "\n", "a"}, func(s string) { holds(t, s) })
}

func TestLongTexts(t *testing.T) {
	const n = 1 << 17
	for _, c := range pieces {
		s := strings.Repeat(c, n/len(c))
		holds(t, s)
		holds(t, s+"\r\n.\r\n"+s)
	}
}

func FuzzAnyBytes(f *testing.F) {
	for _, s := range append(slices.Clone(messages), behinds...) {
		f.Add(s)
	}
	f.Fuzz(holds)
}

// P2

// answers are all bytes that the calls answer of b.
func answers(b []byte) [][]byte {
	text, rest, _ := dots.Scan(b)
	return [][]byte{dots.Close(b), dots.Stuff(b), text, rest}
}

// given are bytes of each kind: whole and not, with an end (and with nothing on either side of it) and without.
var given = []string{
	"not whole", "whole\r\n", "lines\r\n.\r\n..\r\nnot whole", ".\r\n", ".\r\nbehind it", "text\r\n.\r\n", "text\r\n.\r\nbehind it", "..text\r\n.\r\nbehind it\r\n", "\r\n.\r\n\r\n", "a\r\n.", "a\r\n", "\r", ".",
}

// What stands behind the bytes that are given would end them, or go on with them.
var behindAll = []string{"\n", "\r\n", ".\r\n", "\r\n.\r\n", "behind all"}

func TestArgumentsAreLeft(t *testing.T) {
	for _, s := range append(slices.Clone(given), messages...) {
		for _, behind := range behindAll {
			whole := []byte(s + behind + strings.Repeat("#", 100))
			b := whole[:len(s)]
			dots.Whole(b)
			for _, got := range answers(b) {
				for i := range got[:cap(got)] {
					got[:cap(got)][i] = '!'
				}
			}
			if string(whole) != s+behind+strings.Repeat("#", 100) {
				t.Errorf("%s and %s were changed: %s", short(s), short(behind), short(string(whole)))
			}
		}
	}
}

// What was answered stays, whatever becomes of the memory in which the argument stood.
func TestAnswersShareNothingWithArguments(t *testing.T) {
	for _, s := range append(slices.Clone(given), messages...) {
		b := []byte(s)
		got := answers(b)
		clear(b[:cap(b)])
		text, rest, _ := scanned(s)
		for i, want := range []string{closed(s), stuffed(s), text, rest} {
			if string(got[i]) != want {
				t.Errorf("%s: answer %d shares memory with it: got %s, want %s", short(s), i, short(string(got[i])), short(want))
			}
		}
	}
}

// overlap is whether two lists share memory, that behind their lengths with it.
func overlap(a, b []byte) bool {
	if cap(a) == 0 || cap(b) == 0 {
		return false
	}
	x, y := uintptr(unsafe.Pointer(unsafe.SliceData(a))), uintptr(unsafe.Pointer(unsafe.SliceData(b)))
	return x < y+uintptr(cap(b)) && y < x+uintptr(cap(a))
}

func TestAnswersShareNothingWithEachOther(t *testing.T) {
	for _, s := range append(slices.Clone(given), messages...) {
		b := []byte(s)
		all := append(answers(b), answers(b)...)
		for i, x := range all {
			if overlap(x, b) {
				t.Errorf("%s: answer %d shares memory with it", short(s), i)
			}
			for j, y := range all[:i] {
				if overlap(x, y) {
					t.Errorf("%s: answers %d and %d share memory", short(s), i, j)
				}
			}
		}
	}
}

// What lies behind a list's length is no part of it, though it would make it whole, or end it.
func TestWhatLiesBehindIsNotRead(t *testing.T) {
	for _, s := range messages {
		whole := append(dots.Stuff([]byte(s)), "behind all\r\n.\r\n"...)
		for n := range len(whole) + 1 {
			alone := bytes.Clone(whole[:n])
			want := answers(alone[:n:n])
			for i, got := range answers(whole[:n]) {
				if !bytes.Equal(got, want[i]) {
					t.Errorf("%q: answer %d: got %q, want %q", alone, i, got, want[i])
				}
			}
			if dots.Whole(whole[:n]) != aWhole.Match(alone) {
				t.Errorf("Whole(%q): got %v", alone, !aWhole.Match(alone))
			}
		}
	}
}

// P3

func TestNilIsNothing(t *testing.T) {
	for _, b := range [][]byte{nil, {}, []byte("\r\n.\r\n")[:0], make([]byte, 0, 10)} {
		if !dots.Whole(b) || len(dots.Close(b)) != 0 || string(dots.Stuff(b)) != ".\r\n" {
			t.Errorf("%#v: got %v, %q, %q", b, dots.Whole(b), dots.Close(b), dots.Stuff(b))
		}
		if text, rest, ok := dots.Scan(b); len(text) != 0 || len(rest) != 0 || ok {
			t.Errorf("%#v: Scan: got %q, %q, %v", b, text, rest, ok)
		}
	}
}

// What a call answers doesn't hang on those ahead, nor on what became of their answers.
func TestAnswersHangOnArgumentsAlone(t *testing.T) {
	for _, s := range append(slices.Clone(given), messages...) {
		for _, got := range answers([]byte(s)) {
			clear(got[:cap(got)])
		}
		holds(t, "..a\r\n.\r\nb")
		holds(t, "")
		holds(t, s)
	}
}
