package dots_test

import (
	"strconv"
	"strings"
	"testing"

	"scriptorium/dots"
)

// short is s as a test tells it.
func short(s string) string {
	if len(s) > 200 {
		return strconv.Quote(s[:100]) + " .. " + strconv.Quote(s[len(s)-50:]) + " (" + strconv.Itoa(len(s)) + " bytes)"
	}
	return strconv.Quote(s)
}

// closes fails the test unless Close answers that of s, and Whole that s is whole just if nothing is laid behind it.
func closes(t *testing.T, what, s, want string) {
	t.Helper()
	if got := dots.Close([]byte(s)); string(got) != want {
		t.Errorf("%s: Close(%s): got %s, want %s", what, short(s), short(string(got)), short(want))
	}
	if got := dots.Whole([]byte(s)); got != (s == want) {
		t.Errorf("%s: Whole(%s): got %v", what, short(s), got)
	}
	if got := dots.Whole([]byte(want)); !got {
		t.Errorf("%s: Whole(%s): got %v", what, short(want), got)
	}
}

// stuffs fails the test unless Stuff answers that of s.
func stuffs(t *testing.T, what, s, want string) {
	t.Helper()
	if got := dots.Stuff([]byte(s)); string(got) != want {
		t.Errorf("%s: Stuff(%s): got %s, want %s", what, short(s), short(string(got)), short(want))
	}
}

// scans fails the test unless Scan finds an end in s, that text ahead of it, and that rest behind it.
func scans(t *testing.T, what, s, text, rest string) {
	t.Helper()
	gotText, gotRest, ok := dots.Scan([]byte(s))
	if !ok || string(gotText) != text || string(gotRest) != rest {
		t.Errorf("%s: Scan(%s): got %s, %s, %v, want %s, %s", what, short(s), short(string(gotText)), short(string(gotRest)), ok, short(text), short(rest))
	}
}

// scansNone fails the test unless Scan finds no end in s, and answers nothing and s itself.
func scansNone(t *testing.T, what, s string) {
	t.Helper()
	text, rest, ok := dots.Scan([]byte(s))
	if ok || len(text) != 0 || string(rest) != s {
		t.Errorf("%s: Scan(%s): got %s, %s, %v", what, short(s), short(string(text)), short(string(rest)), ok)
	}
}

// repeated is n lines of s.
func repeated(s string, n int) string { return strings.Repeat(s+"\r\n", n) }

// P9.1, P9.2

func TestCloseNothing(t *testing.T) {
	closes(t, "no byte at all", "", "")
	if !dots.Whole(nil) || len(dots.Close(nil)) != 0 {
		t.Errorf("of nil: got %v, %q", dots.Whole(nil), dots.Close(nil))
	}
}

func TestCloseOrdinary(t *testing.T) {
	for _, s := range []string{"a", "Hi", "Hi there", "Hi\r\nthere", "a: b\r\n\r\nHi", "\r\na", "\r\n\r\na", ".", "..", "a\r\n.", ".\r\n.", "\x00", "é", "\xff", " ", "\t"} {
		closes(t, "without an end", s, s+"\r\n")
		closes(t, "with one", s+"\r\n", s+"\r\n")
		closes(t, "with two", s+"\r\n\r\n", s+"\r\n\r\n")
	}
}

func TestCloseOneByte(t *testing.T) {
	for c := range 256 {
		s := string([]byte{byte(c)})
		closes(t, "one byte", s, s+"\r\n")
		closes(t, "one byte with an end", s+"\r\n", s+"\r\n")
		closes(t, "one byte behind an end", "a\r\n"+s, "a\r\n"+s+"\r\n")
	}
}

// Of all pairs of bytes 13 10 alone is an end.
func TestCloseEachPairAtTheEnd(t *testing.T) {
	for c := range 1 << 16 {
		pair := string([]byte{byte(c >> 8), byte(c)})
		for _, ahead := range []string{"", "a", "\r", "\n", "a\r\n"} {
			if pair == "\r\n" {
				closes(t, "an end", ahead+pair, ahead+pair)
			} else {
				closes(t, "no end", ahead+pair, ahead+pair+"\r\n")
			}
		}
	}
}

func TestCloseHalfAnEnd(t *testing.T) {
	for _, s := range []string{"\r", "\n", "\n\r", "\r\r", "\n\n", "a\r", "a\n", "a\n\r", "\r\n\r", "\r\n\n", "\r\n\n\r", "a\r\n\r", "a\r\nb\r", "a\r\n\n", "\r\na", "\r \n", "a\r\x00\n"} {
		closes(t, "half an end", s, s+"\r\n")
	}
	for _, s := range []string{"\r\n", "\r\r\n", "\n\r\n", "\n\r\r\n", "\r\n\r\n", "\r\n\r\r\n", "a\r\r\n", "a\r\n\r\n"} {
		closes(t, "a whole one", s, s)
	}
}

func TestCloseLong(t *testing.T) {
	const n = 1 << 20
	closes(t, "a line of many bytes", strings.Repeat("x", n), strings.Repeat("x", n)+"\r\n")
	closes(t, "a line of many bytes with an end", repeated(strings.Repeat("x", n), 1), repeated(strings.Repeat("x", n), 1))
	closes(t, "many lines", repeated("x", n), repeated("x", n))
	closes(t, "many lines without the last end", repeated("x", n)+"x", repeated("x", n+1))
	closes(t, "many lines with half the last end", repeated("x", n)+"x\r", repeated("x", n)+"x\r\r\n")
}

// P9.3

func TestStuffExample(t *testing.T) {
	stuffs(t, "example", ".x", "..x\r\n.\r\n")
}

func TestStuffNothing(t *testing.T) {
	stuffs(t, "no byte at all", "", ".\r\n")
	if got := dots.Stuff(nil); string(got) != ".\r\n" {
		t.Errorf("of nil: got %q", got)
	}
}

func TestStuffOrdinary(t *testing.T) {
	for _, s := range []string{"a", "Hi there", "From: a@b\r\n\r\nHi", "a.", "a.b.", "a\r\nb", "\r\na", "a\r\n\r\nb", " .", "\t.", "a\r\n .\r\nb", "\x00.", "\xff", "é."} {
		stuffs(t, "without an end", s, s+"\r\n.\r\n")
		stuffs(t, "with one", s+"\r\n", s+"\r\n.\r\n")
		stuffs(t, "with two", s+"\r\n\r\n", s+"\r\n\r\n.\r\n")
	}
}

func TestStuffOneByte(t *testing.T) {
	for c := range 256 {
		s := string([]byte{byte(c)})
		more := ""
		if s == "." {
			more = "."
		}
		stuffs(t, "one byte", s, more+s+"\r\n.\r\n")
		stuffs(t, "one byte behind an end", "a\r\n"+s, "a\r\n"+more+s+"\r\n.\r\n")
		stuffs(t, "one byte between two ends", "\r\n"+s+"\r\n", "\r\n"+more+s+"\r\n.\r\n")
		stuffs(t, "a byte ahead of a point", s+".", more+s+".\r\n.\r\n")
		stuffs(t, "a byte behind a point", "."+s, ".."+s+"\r\n.\r\n")
	}
}

// Of all pairs of bytes 13 10 alone is followed by another line.
func TestStuffBehindEachPair(t *testing.T) {
	for c := range 1 << 16 {
		pair := string([]byte{byte(c >> 8), byte(c)})
		want := "a" + pair + ".\r\n.\r\n"
		if pair == "\r\n" {
			want = "a\r\n..\r\n.\r\n"
		}
		stuffs(t, "behind a pair", "a"+pair+".", want)
	}
}

func TestStuffHalfAnEnd(t *testing.T) {
	for _, s := range []string{"\r", "\n", "\n\r", "a\r", "a\n", "a\n\r", "\r\n\r", "\r\n\n", "a\r\n\r", "\r.", "\n.", "a\r.b", "a\n.b", "a\n\r.b", "\r\n\r.", "\r\n\n.", "a\r\n\n.b\n.c", "\r\r\r", "\n\n\n", "\n.\n", "\r.\r"} {
		stuffs(t, "half an end", s, s+"\r\n.\r\n")
	}
	stuffs(t, "13 10 alone", "\r\n", "\r\n.\r\n")
	stuffs(t, "a 13 ahead", "\r\r\n", "\r\r\n.\r\n")
	stuffs(t, "a 10 ahead", "\n\r\n", "\n\r\n.\r\n")
	stuffs(t, "a point behind a 13 and an end", "a\r\r\n.b", "a\r\r\n..b\r\n.\r\n")
	stuffs(t, "a point behind an end, a 13 behind it", "a\r\n.\r", "a\r\n..\r\r\n.\r\n")
	stuffs(t, "a point behind an end, a 10 behind it", "a\r\n.\nb", "a\r\n..\nb\r\n.\r\n")
	stuffs(t, "a point at the beginning, others behind 10 and 13", ".a\n.b\r.c", "..a\n.b\r.c\r\n.\r\n")
}

func TestStuffLinesWithNothingInThem(t *testing.T) {
	for n := range 20 {
		stuffs(t, "nothing in any", repeated("", n), repeated("", n)+".\r\n")
		stuffs(t, "a point behind", repeated("", n)+".", repeated("", n)+"..\r\n.\r\n")
		stuffs(t, "between two points", ".\r\n"+repeated("", n)+".\r\n", "..\r\n"+repeated("", n)+"..\r\n.\r\n")
		stuffs(t, "between two letters", "a\r\n"+repeated("", n)+"b", "a\r\n"+repeated("", n)+"b\r\n.\r\n")
	}
}

func TestStuffPointLines(t *testing.T) {
	stuffs(t, "alone", ".\r\n", "..\r\n.\r\n")
	stuffs(t, "alone, without an end", ".", "..\r\n.\r\n")
	stuffs(t, "at the beginning", ".\r\na\r\nb\r\n", "..\r\na\r\nb\r\n.\r\n")
	stuffs(t, "in the midst", "a\r\n.\r\nb\r\n", "a\r\n..\r\nb\r\n.\r\n")
	stuffs(t, "at the end", "a\r\nb\r\n.\r\n", "a\r\nb\r\n..\r\n.\r\n")
	stuffs(t, "at the end, without an end", "a\r\nb\r\n.", "a\r\nb\r\n..\r\n.\r\n")
	stuffs(t, "at all of them", ".\r\na\r\n.\r\nb\r\n.\r\n", "..\r\na\r\n..\r\nb\r\n..\r\n.\r\n")
	for n := range 20 {
		stuffs(t, "one behind the other", repeated(".", n), repeated("..", n)+".\r\n")
	}
}

func TestStuffPointsAtTheBeginningOfALine(t *testing.T) {
	for n := 1; n < 20; n++ {
		points := strings.Repeat(".", n)
		stuffs(t, "points alone", points, "."+points+"\r\n.\r\n")
		for _, behind := range []string{"x", ".x", " ", "x.", "x.y..", "\r", "\n", "\n."} {
			s := points + behind
			stuffs(t, "the first line", s+"\r\na\r\n", "."+s+"\r\na\r\n.\r\n")
			stuffs(t, "a line in the midst", "a\r\n"+s+"\r\nb\r\n", "a\r\n."+s+"\r\nb\r\n.\r\n")
			stuffs(t, "the last line", "a\r\n"+s, "a\r\n."+s+"\r\n.\r\n")
			stuffs(t, "each line", repeated(s, 3), repeated("."+s, 3)+".\r\n")
			stuffs(t, "not at the beginning", "a"+s+"\r\n", "a"+s+"\r\n.\r\n")
		}
	}
}

func TestStuffLong(t *testing.T) {
	const n = 1 << 18
	long := strings.Repeat("x", n)
	stuffs(t, "a line of many bytes", long, long+"\r\n.\r\n")
	stuffs(t, "a line of many bytes behind a point", "."+long, ".."+long+"\r\n.\r\n")
	stuffs(t, "a line of many points", strings.Repeat(".", n), strings.Repeat(".", n+1)+"\r\n.\r\n")
	stuffs(t, "many lines", repeated("x.", n), repeated("x.", n)+".\r\n")
	stuffs(t, "many lines behind points", repeated(".x", n), repeated("..x", n)+".\r\n")
	stuffs(t, "many lines that are a point", repeated(".", n)+".", repeated("..", n+1)+".\r\n")
	stuffs(t, "many lines with nothing in them", repeated("", n), repeated("", n)+".\r\n")
}

// P9.4

// behinds are bytes that may stand behind an end.
var behinds = []string{
	"", ".", "\r", "\n", "\r\n", "\n\r", ".\r", ".\n", ".\r\n", "..\r\n", "\r\n.\r\n", ".\r\n.\r\n", "a", ".a", "..a", "\r\n.", "QUIT\r\n", "MAIL FROM:<a@b>\r\nRCPT TO:<c@d>\r\nDATA\r\n", "a\r\n.\r\nb\r\n.\r\nc", "\x00\xff", "é", "\r.\r\n", "\n.\r\n", "..", "...\r\n",
}

func TestScanEndAlone(t *testing.T) {
	for _, rest := range behinds {
		scans(t, "an end alone", ".\r\n"+rest, "", rest)
	}
}

func TestScanOrdinary(t *testing.T) {
	for _, rest := range behinds {
		for _, text := range []string{"a\r\n", "Hi there\r\n", "a\r\nb\r\n", "From: a@b\r\nTo: c@d\r\n\r\nHi.\r\n", "a.\r\n", "a.b\r\n", " .\r\n", "a\r\n\r\n", "\x00\r\n", "\xff.\xff\r\n", "é\r\n"} {
			scans(t, "ordinary", text+".\r\n"+rest, text, rest)
			scans(t, "twice", text+text+".\r\n"+rest, text+text, rest)
		}
	}
}

func TestScanFirstEnd(t *testing.T) {
	scans(t, "two", "a\r\n.\r\nb\r\n.\r\n", "a\r\n", "b\r\n.\r\n")
	scans(t, "two, one behind the other", ".\r\n.\r\n", "", ".\r\n")
	scans(t, "three", ".\r\n.\r\n.\r\n", "", ".\r\n.\r\n")
	scans(t, "three with lines between", "a\r\n.\r\n.b\r\n.\r\n..c\r\n.\r\n", "a\r\n", ".b\r\n.\r\n..c\r\n.\r\n")
	scans(t, "behind a line of two points", "..\r\n.\r\n.\r\n", ".\r\n", ".\r\n")
	for n := 1; n < 20; n++ {
		scans(t, "many", repeated(".", n), "", repeated(".", n-1))
	}
}

// What stands behind the end stays as it is.
func TestScanLeavesWhatStandsBehind(t *testing.T) {
	for c := range 256 {
		s := string([]byte{byte(c)})
		for _, rest := range []string{s, s + s, "." + s, "\r\n" + s, s + "\r\n", s + "\r\n.\r\n", "\r\n." + s, ".." + s + "\r\n.\r\n"} {
			scans(t, "each byte behind", ".\r\n"+rest, "", rest)
			scans(t, "each byte behind", "..a\r\n.\r\n"+rest, ".a\r\n", rest)
		}
	}
}

func TestScanPointsAtTheBeginningOfALine(t *testing.T) {
	for n := 1; n < 20; n++ {
		points := strings.Repeat(".", n)
		for _, behind := range []string{"x", ".x", " ", "x.", "x.y..", "\r", "\n", "\n.", "\x00", "\xff", "."} {
			s := points + behind
			scans(t, "the first line", s+"\r\na\r\n.\r\n", s[1:]+"\r\na\r\n", "")
			scans(t, "a line in the midst", "a\r\n"+s+"\r\nb\r\n.\r\nc", "a\r\n"+s[1:]+"\r\nb\r\n", "c")
			scans(t, "the last line", "a\r\n"+s+"\r\n.\r\n.", "a\r\n"+s[1:]+"\r\n", ".")
			scans(t, "each line", repeated(s, 3)+".\r\n", repeated(s[1:], 3), "")
			scans(t, "not at the beginning", "a"+s+"\r\n.\r\n", "a"+s+"\r\n", "")
			scansNone(t, "without the end", "a\r\n"+s+"\r\n")
		}
	}
}

func TestScanEachByteAtTheBeginningOfALine(t *testing.T) {
	for c := range 256 {
		s := string([]byte{byte(c)})
		if s == "." {
			scans(t, "a point", ".\r\n.\r\n", "", ".\r\n")
			scans(t, "a point and a letter", ".a\r\n.\r\n", "a\r\n", "")
			continue
		}
		scans(t, "a byte alone", s+"\r\n.\r\n", s+"\r\n", "")
		scans(t, "a byte and a point", s+".\r\n.\r\n", s+".\r\n", "")
		scans(t, "a byte behind a point", "."+s+"\r\n.\r\n", s+"\r\n", "")
		scans(t, "a byte behind two", ".."+s+"\r\n.\r\n", "."+s+"\r\n", "")
		scans(t, "a byte in the midst", "a"+s+"b\r\n.\r\n", "a"+s+"b\r\n", "")
	}
}

// Of all pairs of bytes 13 10 alone stands ahead of the last line, and behind its point.
func TestScanEachPairAtTheEnd(t *testing.T) {
	for c := range 1 << 16 {
		pair := string([]byte{byte(c >> 8), byte(c)})
		if pair == "\r\n" {
			scans(t, "an end", "a"+pair+".\r\n", "a\r\n", "")
			scans(t, "an end", "a\r\n."+pair, "a\r\n", "")
			continue
		}
		scansNone(t, "no end ahead of the point", "a"+pair+".\r\n")
		scansNone(t, "no end behind the point", "a\r\n."+pair)
		scansNone(t, "no end behind the only point", "."+pair)
	}
}

func TestScanHalfAnEnd(t *testing.T) {
	for _, s := range []string{
		"\r.\r\n", "\n.\r\n", "\n\r.\r\n", "a\r.\r\n", "a\n.\r\n", "a\n\r.\r\n", "a\r\n\r.\r\n", "a\r\n\n.\r\n", "\r\n\r.\r\n", "\r\n\n.\r\n", "\r\r.\r\n", "\n\n.\r\n",
		".\r", ".\n", ".\n\r", ".\r\r\n", ".\n\r\n", "a\r\n.\r\r\n", "a\r\n.\n\r\n", "\n.\n", "\r.\r", "a\n.\n", "a\r.\r", "a\r\n.\n", "a\r\n.\r", "a\n.\nb\n", " .\r\n", ". \r\n", "a\r\n. \r\n", "a\r\n .\r\n", ".\t\r\n", ".\x00\r\n", "a.\r\n", "a\r\na.\r\n", "..\r\n", "...\r\n", "a\r\n..\r\n",
	} {
		scansNone(t, "no line that is just a point", s)
		scansNone(t, "twice", s+s)
	}
	scans(t, "a 13 ahead of an end", "a\r\r\n.\r\nb", "a\r\r\n", "b")
	scans(t, "a 10 ahead of an end", "a\n\r\n.\r\nb", "a\n\r\n", "b")
	scans(t, "a point and a 13", ".\r\r\n.\r\n", "\r\r\n", "")
	scans(t, "a point and a 10", ".\n\r\n.\r\n", "\n\r\n", "")
	scans(t, "a point behind a 13", "a\r.b\r\n.\r\n", "a\r.b\r\n", "")
	scans(t, "a point behind a 10", "a\n.b\r\n.\r\n", "a\n.b\r\n", "")
	scans(t, "a point behind a 10 and a 13", "a\n\r.b\r\n.\r\n", "a\n\r.b\r\n", "")
	scans(t, "what looks like an end", "a\n.\r\nb\r\n.\r\nc", "a\n.\r\nb\r\n", "c")
	scans(t, "what looks like an end", "a\r.\r\nb\r\n.\r\nc", "a\r.\r\nb\r\n", "c")
}

func TestScanLinesWithNothingInThem(t *testing.T) {
	for n := range 20 {
		scans(t, "nothing in any", repeated("", n)+".\r\n", repeated("", n), "")
		scans(t, "others behind", repeated("", n)+".\r\n"+repeated("", n), repeated("", n), repeated("", n))
		scans(t, "between two points", "..\r\n"+repeated("", n)+"..\r\n.\r\n", ".\r\n"+repeated("", n)+".\r\n", "")
		scansNone(t, "without the end", repeated("", n))
		scansNone(t, "with a point behind", repeated("", n)+".")
	}
}

func TestScanLong(t *testing.T) {
	const n = 1 << 18
	long := strings.Repeat("x", n)
	scans(t, "a line of many bytes", long+"\r\n.\r\n"+long, long+"\r\n", long)
	scans(t, "a line of many bytes behind a point", "."+long+"\r\n.\r\n", long+"\r\n", "")
	scans(t, "a line of many points", strings.Repeat(".", n)+"\r\n.\r\n", strings.Repeat(".", n-1)+"\r\n", "")
	scans(t, "many lines", repeated("x.", n)+".\r\n"+repeated("y", n), repeated("x.", n), repeated("y", n))
	scans(t, "many lines behind points", repeated("..x", n)+".\r\n", repeated(".x", n), "")
	scans(t, "many lines of two points", repeated("..", n)+".\r\n", repeated(".", n), "")
	scans(t, "many lines behind one point", repeated(".x", n)+".\r\n", repeated("x", n), "")
	scans(t, "many lines with nothing in them", repeated("", n)+".\r\n", repeated("", n), "")
	scans(t, "many ends behind", repeated(".", n), "", repeated(".", n-1))
	scansNone(t, "a line of many bytes", long)
	scansNone(t, "a line of many bytes with its end", long+"\r\n")
	scansNone(t, "many lines", repeated("..", n)+".")
}

func TestScanWithoutAnEnd(t *testing.T) {
	scansNone(t, "no byte at all", "")
	if text, rest, ok := dots.Scan(nil); ok || len(text) != 0 || len(rest) != 0 {
		t.Errorf("of nil: got %q, %q, %v", text, rest, ok)
	}
	for c := range 256 {
		s := string([]byte{byte(c)})
		scansNone(t, "one byte", s)
		scansNone(t, "one byte behind an end", "a\r\n"+s)
	}
	for _, s := range []string{"\r\n", "a\r\n", "a\r\nb", "a\r\n.", "a\r\n.\r", ".", ".\r", ".a\r\n", ".a\r\n..b\r\n", "..", "..\r\n", "..\r\n.", "\r\n.", "\r\n\r\n.", "QUIT\r\n"} {
		scansNone(t, "without an end", s)
	}
}

// messages are texts with each kind of line.
var messages = []string{
	"", "\r\n", "a", "a\r\n", ".", ".\r\n", "..", "..\r\n", "...", ".x", "..x\r\n", "\r", "\n", "\n\r", "a\r", "a\n", "a\r\n\r", "\r\n\r\n\r\n", "\r\n.\r\n", ".\r\n.\r\n", "a\r\n.\r\nb", "a\n.\r\nb", "a\r.\r\nb", "\n.\r\n", "\r.\r\n",
	".\r", ".\n", ".\r\r\n", "a.b\r\n.c.\r\n", "From: a@b\r\nTo: c@d\r\n\r\nHi.\r\n.hidden\r\n..\r\n.\r\nbye", "\x00.\xff\r\n.\x00", "é\r\n.é", ".a\r\n..b\r\n...c\r\n....",
}

func TestScanCutOffAtEachPlace(t *testing.T) {
	for _, s := range messages {
		wire := string(dots.Stuff([]byte(s)))
		for n := range len(wire) {
			scansNone(t, "cut off", wire[:n])
		}
	}
}
