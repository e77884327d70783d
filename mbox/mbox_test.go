package mbox_test

import (
	"math"
	"strconv"
	"strings"
	"testing"

	"scriptorium/api"
	"scriptorium/mbox"
)

// short is s as a test tells it.
func short(s string) string {
	if len(s) > 200 {
		return strconv.Quote(s[:100]) + " .. " + strconv.Quote(s[len(s)-50:]) + " (" + strconv.Itoa(len(s)) + " bytes)"
	}
	return strconv.Quote(s)
}

// letter is one of that body.
func letter(from string, at int64, body string) api.Letter {
	return api.Letter{From: from, At: at, Body: []byte(body)}
}

// told is how many letters there are, and the first ones of them.
func told(l []api.Letter) string {
	var s strings.Builder
	s.WriteString(strconv.Itoa(len(l)) + " letters")
	for _, x := range l[:min(len(l), 5)] {
		s.WriteString(" (" + short(x.From) + " " + strconv.FormatInt(x.At, 10) + " " + short(string(x.Body)) + ")")
	}
	return s.String()
}

// same is whether both lists have the same letters.
func same(l, m []api.Letter) bool {
	for i := range l {
		if i >= len(m) || l[i].From != m[i].From || l[i].At != m[i].At || string(l[i].Body) != string(m[i].Body) {
			return false
		}
	}
	return len(l) == len(m)
}

// quotes fails the test unless Quote answers that of s, and Unquote takes it back.
func quotes(t *testing.T, what, s, want string) {
	t.Helper()
	if got := mbox.Quote([]byte(s)); string(got) != want {
		t.Errorf("%s: Quote(%s): got %s, want %s", what, short(s), short(string(got)), short(want))
	}
	unquotes(t, what, want, s)
}

// unquotes fails the test unless Unquote answers that of s.
func unquotes(t *testing.T, what, s, want string) {
	t.Helper()
	if got := mbox.Unquote([]byte(s)); string(got) != want {
		t.Errorf("%s: Unquote(%s): got %s, want %s", what, short(s), short(string(got)), short(want))
	}
}

// exports fails the test unless Export answers that of the letters, and Parse takes it back.
func exports(t *testing.T, what, want string, l ...api.Letter) {
	t.Helper()
	b, err := mbox.Export(l)
	if err != api.OK || string(b) != want {
		t.Errorf("%s: Export of %s: got %s, %d, want %s", what, told(l), short(string(b)), err, short(want))
	}
	parses(t, what, want, l...)
}

// exportsNone fails the test unless Export answers that the letters may not be, and nothing beside it.
func exportsNone(t *testing.T, what string, l ...api.Letter) {
	t.Helper()
	if b, err := mbox.Export(l); err != api.ErrMbox || len(b) != 0 {
		t.Errorf("%s: Export of %s: got %s, %d", what, told(l), short(string(b)), err)
	}
}

// parses fails the test unless Parse finds just these letters in s.
func parses(t *testing.T, what, s string, want ...api.Letter) {
	t.Helper()
	l, err := mbox.Parse([]byte(s))
	if err != api.OK || !same(l, want) {
		t.Errorf("%s: Parse(%s): got %s, %d, want %s", what, short(s), told(l), err, told(want))
	}
}

// parsesNone fails the test unless Parse answers that s is nobody's export, and nothing beside it.
func parsesNone(t *testing.T, what, s string) {
	t.Helper()
	if l, err := mbox.Parse([]byte(s)); err != api.ErrMbox || len(l) != 0 {
		t.Errorf("%s: Parse(%s): got %s, %d", what, short(s), told(l), err)
	}
}

// P10.1

func TestQuoteNothing(t *testing.T) {
	quotes(t, "no byte at all", "", "")
	quotes(t, "the byte 10 alone", "\n", "\n")
	if a, b := mbox.Quote(nil), mbox.Unquote(nil); len(a) != 0 || len(b) != 0 {
		t.Errorf("of nil: got %q, %q", a, b)
	}
}

// plain are lines, without their ends, that are neither quoted nor unquoted.
var plain = []string{
	"", "a", "Hi there", "From", "From:", "From\t", "From\r", "From\x00", "From\xff", "From: a@b", "Fromage", "from ", "FROM ", "FRom ", "From>", "Fro m ", "rom ", "F", "Fro",
	" From ", "\tFrom ", "\rFrom ", "\x00From ", "\xffFrom ", "éFrom ", "aFrom ", "a From b", "a From ", "a >From ", ".From ", "<From ", "FFrom ", "From From ", "FromFrom ",
	">", ">>", ">>>>>>>", "> ", ">a", "> From ", ">> From ", "> >From ", ">>\t>From ", ">\rFrom ", ">\x00From ", ">aFrom ", "a>From ", " >From ", " >>From ", "|>From ", "=>From ", ">From", ">From:", ">>From", ">>From\t", ">from ", "&gt;From ", "＞From ", "\xbeFrom ", ">.From ", ">F", ">Fro",
}

func TestQuotePlainLines(t *testing.T) {
	for _, s := range plain {
		if strings.HasPrefix(s, "From ") {
			continue
		}
		for _, body := range []string{s, s + "\n", s + "\n\n", "\n" + s, "a\n" + s + "\nb\n", s + "\n" + s, s + "\n" + s + "\n"} {
			quotes(t, "plain", body, body)
		}
	}
}

// marked are lines, without their ends, each of which is quoted.
var marked = []string{
	"From ", "From a@b 5", "From x", "From  ", "From \t", "From \r", "From \x00", "From \xff", "From é", "From From ", "From >", "From >From ", "From - 0", "From me to you",
	">From ", ">From x", ">>From ", ">>From x", ">>>>>>>>>From x", ">From >From ", ">From From ", ">>From >",
}

func TestQuoteMarkedLines(t *testing.T) {
	for _, s := range marked {
		quotes(t, "alone", s, ">"+s)
		quotes(t, "with an end", s+"\n", ">"+s+"\n")
		quotes(t, "with two", s+"\n\n", ">"+s+"\n\n")
		quotes(t, "behind an end", "\n"+s, "\n>"+s)
		quotes(t, "the first line", s+"\nb\n", ">"+s+"\nb\n")
		quotes(t, "in the midst", "a\n"+s+"\nb\n", "a\n>"+s+"\nb\n")
		quotes(t, "the last line", "a\nb\n"+s, "a\nb\n>"+s)
		quotes(t, "two, one behind the other", s+"\n"+s, ">"+s+"\n>"+s)
		quotes(t, "two with a line between", s+"\n\n"+s+"\n", ">"+s+"\n\n>"+s+"\n")
		quotes(t, "behind a line without its blank", "From\n"+s+"\nFrom", "From\n>"+s+"\nFrom")
		quotes(t, "not at the beginning of its line", "a"+s+"\n "+s+"\n", "a"+s+"\n "+s+"\n")
		quotes(t, "behind a 13", "a\r"+s+"\r\n", "a\r"+s+"\r\n")
		quotes(t, "behind 13 10", "a\r\n"+s+"\r\n", "a\r\n>"+s+"\r\n")
		quotes(t, "behind 10 13", "a\n\r"+s, "a\n\r"+s)
	}
}

// Each quote of what is quoted already has one more `>`, and just one is taken away again.
func TestQuotesOfQuotes(t *testing.T) {
	for n := range 30 {
		s, more := strings.Repeat(">", n)+"From x", strings.Repeat(">", n+1)+"From x"
		quotes(t, "alone", s, more)
		quotes(t, "with an end", s+"\n", more+"\n")
		quotes(t, "between others", ">From \n"+s+"\nFrom \n", ">>From \n"+more+"\n>From \n")
		quotes(t, "without its blank", strings.Repeat(">", n)+"From", strings.Repeat(">", n)+"From")
	}
	b := []byte("From x\n>From y\n>\nz")
	for n := range 30 {
		if want := strings.Repeat(">", n) + "From x\n" + strings.Repeat(">", n+1) + "From y\n>\nz"; string(b) != want {
			t.Errorf("quoted %d times: got %q", n, b)
		}
		b = mbox.Quote(b)
	}
}

// What begins as a first line does needs no byte behind its blank, and each byte may stand ahead of and behind it.
func TestQuoteEachByte(t *testing.T) {
	for c := range 256 {
		s := string([]byte{byte(c)})
		quotes(t, "one byte", s, s)
		quotes(t, "behind the blank", "From "+s, ">From "+s)
		quotes(t, "behind the blank of a quoted one", ">From "+s, ">>From "+s)
		if s != " " {
			quotes(t, "instead of the blank", "From"+s, "From"+s)
			quotes(t, "instead of the blank of a quoted one", ">From"+s+" ", ">From"+s+" ")
		}
		switch s {
		case "\n":
			quotes(t, "an end ahead", s+"From ", s+">From ")
			quotes(t, "an end behind a `>`", ">"+s+"From ", ">"+s+">From ")
		case ">":
			quotes(t, "a `>` ahead", s+"From ", ">>From ")
			quotes(t, "a `>` behind a `>`", ">"+s+"From ", ">>>From ")
		default:
			quotes(t, "a byte ahead", s+"From ", s+"From ")
			quotes(t, "a byte behind a `>`", ">"+s+"From ", ">"+s+"From ")
			quotes(t, "a byte ahead of a `>`", s+">From ", s+">From ")
		}
		for i := range len("From ") {
			if other := "From "[:i] + s + "From "[i+1:]; other != "From " && s != "\n" && s != ">" {
				quotes(t, "a byte of it is another", other, other)
				quotes(t, "a byte of a quoted one is another", ">"+other, ">"+other)
			}
		}
	}
}

func TestUnquoteOrdinary(t *testing.T) {
	unquotes(t, "one `>`", ">From x", "From x")
	unquotes(t, "two", ">>From x\n", ">From x\n")
	unquotes(t, "many", strings.Repeat(">", 100)+"From x\n", strings.Repeat(">", 99)+"From x\n")
	unquotes(t, "several lines", ">From a\nb\n>>From c\n>d\n>From ", "From a\nb\n>From c\n>d\nFrom ")
	unquotes(t, "a mailbox file's letter", "Hi\n\n>From now on\n", "Hi\n\nFrom now on\n")
}

// A line that is one of those without a `>` is no Quote's, and stays.
func TestUnquoteWhatIsNotQuoted(t *testing.T) {
	for _, s := range []string{"From ", "From x", "From From ", "From >From "} {
		for _, b := range []string{s, s + "\n", "a\n" + s + "\n", s + "\n" + s + "\n"} {
			unquotes(t, "not quoted", b, b)
		}
		unquotes(t, "beside a quoted one", s+"\n>"+s+"\n>>"+s+"\n", s+"\n"+s+"\n>"+s+"\n")
	}
}

func TestQuoteLong(t *testing.T) {
	const n = 1 << 20
	long := strings.Repeat("x", n)
	quotes(t, "a line of many bytes", long, long)
	quotes(t, "a line of many bytes that is marked", "From "+long, ">From "+long)
	quotes(t, "a line of many `>`", strings.Repeat(">", n), strings.Repeat(">", n))
	quotes(t, "many `>` ahead", strings.Repeat(">", n)+"From ", strings.Repeat(">", n+1)+"From ")
	quotes(t, "many lines", strings.Repeat("x\n", n), strings.Repeat("x\n", n))
	quotes(t, "many ends", strings.Repeat("\n", n), strings.Repeat("\n", n))
	quotes(t, "many lines that are marked", strings.Repeat("From \n", n), strings.Repeat(">From \n", n))
	quotes(t, "many marks on one line", strings.Repeat("From ", n), ">"+strings.Repeat("From ", n))
}

// P10.2

func TestExportExample(t *testing.T) {
	exports(t, "example", "From a@b 5\n>From x\n\n", letter("a@b", 5, "From x\n"))
}

func TestExportNothing(t *testing.T) {
	exports(t, "no letter at all", "")
	if b, err := mbox.Export(nil); len(b) != 0 || err != api.OK {
		t.Errorf("of nil: got %q, %d", b, err)
	}
}

func TestExportOrdinary(t *testing.T) {
	exports(t, "one", "From a@b 5\nHi\n\n", letter("a@b", 5, "Hi\n"))
	exports(t, "two", "From a@b 5\nHi\n\nFrom c@d.org 60\nHi there\n\n", letter("a@b", 5, "Hi\n"), letter("c@d.org", 60, "Hi there\n"))
	exports(t, "in their order", "From c@d 60\n\nFrom a@b 5\n\nFrom c@d 60\n\n", letter("c@d", 60, ""), letter("a@b", 5, ""), letter("c@d", 60, ""))
	exports(t, "a head and lines", "From a@b 5\nFrom: a@b\r\nTo: c@d\r\n\r\nHi\r\n\n", letter("a@b", 5, "From: a@b\r\nTo: c@d\r\n\r\nHi\r\n"))
	exports(t, "any bytes", "From a@b 5\n\x00\xff\r é\n\n", letter("a@b", 5, "\x00\xff\r é\n"))
	exports(t, "the least", "From - 0\n\n", api.Letter{})
}

func TestExportMany(t *testing.T) {
	var l []api.Letter
	var want strings.Builder
	for n := range 5000 {
		at := strconv.Itoa(n * n)
		l = append(l, letter("a"+strconv.Itoa(n)+"@b.org", int64(n*n), "Letter\nFrom "+at+"\n"))
		want.WriteString("From a" + strconv.Itoa(n) + "@b.org " + at + "\nLetter\n>From " + at + "\n\n")
	}
	exports(t, "many", want.String(), l...)
}

// longest are a mailbox's longest parts.
var longest = strings.Repeat("a", 64) + "@" + strings.Repeat(strings.Repeat("b", 63)+".", 3) + strings.Repeat("c", 63)

func TestExportFrom(t *testing.T) {
	exports(t, "nobody", "From - 7\nx\n\n", letter("", 7, "x\n"))
	for _, from := range []string{"a@b", "A@B", "a.b@x.org", "-@b", "--@b", "-@b-c", "0@0", "From@From", "a+b@c", "!#$%&'*+-/=?^_{|}~`@x", longest} {
		exports(t, "somebody", "From "+from+" 7\nx\n\n", letter(from, 7, "x\n"))
		exports(t, "behind nobody", "From - 0\n\nFrom "+from+" 7\n\nFrom - 0\n\n", api.Letter{}, letter(from, 7, ""), api.Letter{})
	}
}

// nobodys are texts that are no mailboxes.
var nobodys = []string{
	"-", "--", " ", "  ", "a", "@", "a@", "@b", "a@b ", " a@b", "a @b", "a b@c", "a@b c", "a@b\n", "\na@b", "a@b\nc@d", "a@b\r", "a@b\x00", "a@b 5", "<a@b>", "<>", ">@b", "a@b@c", "a..b@c", ".a@b", "a.@b", "a@b..c", "a@-b", "a@b-", "a@.b", "a@b.", "é@b", "a@é", "a@\xff", "\"a\"@b", "- ", " -", "-\n",
	"a" + longest, longest + "c",
}

func TestExportFromThatMayNotBe(t *testing.T) {
	for _, from := range nobodys {
		exportsNone(t, "no mailbox", letter(from, 5, "x\n"))
		exportsNone(t, "no mailbox, nothing else", letter(from, 0, ""))
		exportsNone(t, "the first one", letter(from, 5, "x\n"), letter("a@b", 5, "x\n"))
		exportsNone(t, "the last one", letter("a@b", 5, "x\n"), letter("", 5, "x\n"), letter(from, 5, "x\n"))
	}
}

func TestExportAt(t *testing.T) {
	for at := int64(1); at > 0 && at <= math.MaxInt64/10; at *= 10 {
		for _, n := range []int64{at - 1, at, at + 1, at * 9, at * 10} {
			exports(t, "a time", "From a@b "+strconv.FormatInt(n, 10)+"\n\n", letter("a@b", n, ""))
		}
	}
	exports(t, "the least", "From a@b 0\n\n", letter("a@b", 0, ""))
	exports(t, "the greatest", "From a@b 9223372036854775807\n\n", letter("a@b", math.MaxInt64, ""))
	exports(t, "ahead of the greatest", "From a@b 9223372036854775806\n\n", letter("a@b", math.MaxInt64-1, ""))
	exports(t, "beyond 32 bits", "From a@b 4294967296\n\n", letter("a@b", 1<<32, ""))
	for _, n := range []int64{-1, -2, -10, math.MinInt32, math.MinInt64 + 1, math.MinInt64} {
		exportsNone(t, "below 0", letter("a@b", n, "x\n"))
		exportsNone(t, "below 0, nothing else", letter("", n, ""))
		exportsNone(t, "below 0, the first one", letter("a@b", n, "x\n"), letter("a@b", 0, "x\n"))
		exportsNone(t, "below 0, the last one", letter("a@b", 0, "x\n"), letter("a@b", n, "x\n"))
	}
}

func TestExportBody(t *testing.T) {
	for _, body := range []string{"", "\n", "\n\n", "\n\n\n\n", "x\n", "x\n\n", "x\n\n\n", "\nx\n", "\n\nx\n", "\n\nx\ny\n\n\n", "x\n\n\ny\n", "x\r\n", "\r\n", "\r\n\r\n", ">\n", "> \n", "From\n", "From:\n", "a From b\n", "\x00\n", "\xff\n", " \n", " \n\n", "- 0\n", "a@b 5\n"} {
		exports(t, "plain", "From a@b 5\n"+body+"\n", letter("a@b", 5, body))
		exports(t, "plain, with one behind", "From a@b 5\n"+body+"\nFrom - 0\n\n", letter("a@b", 5, body), api.Letter{})
		exports(t, "plain, three times", strings.Repeat("From - 0\n"+body+"\n", 3), letter("", 0, body), letter("", 0, body), letter("", 0, body))
	}
	for _, s := range marked {
		exports(t, "quoted", "From a@b 5\n>"+s+"\n\n", letter("a@b", 5, s+"\n"))
		exports(t, "quoted between others", "From a@b 5\nx\n\n>"+s+"\n\ny\n\n", letter("a@b", 5, "x\n\n"+s+"\n\ny\n"))
		exports(t, "quoted, with one behind", "From - 0\n\n>"+s+"\n\n\nFrom - 1\n>"+s+"\n\n", letter("", 0, "\n"+s+"\n\n"), letter("", 1, s+"\n"))
	}
}

// An export as a letter's body is a letter, and not those that it has.
func TestExportOfAnExport(t *testing.T) {
	l := []api.Letter{letter("a@b", 5, "From x\nhi\n\n"), {}, letter("c@d", 6, "\n>From \n")}
	first, err := mbox.Export(l)
	if err != api.OK {
		t.Fatal(err)
	}
	exports(t, "an export", "From - 9\n>From a@b 5\n>>From x\nhi\n\n\n>From - 0\n\n>From c@d 6\n\n>>>From \n\n\n", letter("", 9, string(first)))
}

func TestExportBodyThatMayNotBe(t *testing.T) {
	for _, body := range []string{"x", "\r", "x\r", "\n\r", "x\ny", "x\n\ny", "\nx", "\n\nx", "x\n ", "x\n>", ">", "From ", "From x", ">From x", "x\nFrom ", "\n\x00", "\n\xff", "\x00", "x\n\n\r", "\n\u2028", "\u0085", "\x0b", "\x0c"} {
		exportsNone(t, "without its end", letter("a@b", 5, body))
		exportsNone(t, "without its end, nothing else", letter("", 0, body))
		exportsNone(t, "the first one", letter("a@b", 5, body), letter("a@b", 5, "x\n"))
		exportsNone(t, "the last one", letter("a@b", 5, "x\n"), letter("a@b", 5, body))
	}
	for c := range 256 {
		if c != '\n' {
			exportsNone(t, "ends with another byte", letter("a@b", 5, "x\n"+string([]byte{byte(c)})))
		}
	}
}

func TestExportAllThatMayNotBe(t *testing.T) {
	exportsNone(t, "all of it", letter("a", -1, "x"))
	exportsNone(t, "all of it in turn", letter("a", 0, ""), letter("", -1, ""), letter("", 0, "x"))
}

func TestExportLong(t *testing.T) {
	const n = 1 << 20
	for _, body := range []string{strings.Repeat("x", n) + "\n", strings.Repeat("\n", n), strings.Repeat("x\n", n), strings.Repeat(">", n) + "\n"} {
		exports(t, "a long body", "From a@b 5\n"+body+"\nFrom - 0\n\n", letter("a@b", 5, body), api.Letter{})
	}
	exports(t, "a long body of marks", "From a@b 5\n"+strings.Repeat(">From \n", n)+"\n", letter("a@b", 5, strings.Repeat("From \n", n)))
	exports(t, "many letters", strings.Repeat("From - 0\n\n", 1<<16), make([]api.Letter, 1<<16)...)
}

// P10.3

func TestParseNothing(t *testing.T) {
	parses(t, "no byte at all", "")
	if l, err := mbox.Parse(nil); len(l) != 0 || err != api.OK {
		t.Errorf("of nil: got %s, %d", told(l), err)
	}
}

// behindFirst are bytes that may stand behind a letter's whole first line, with the body that they are.
var behindFirst = map[string]string{"\n": "", "x\n\n": "x\n", ">From x\n\n": "From x\n", "\n\n": "\n", "\n\n\n": "\n\n"}

func TestParseWhatIsNoFirstLine(t *testing.T) {
	for _, first := range []string{
		"", "x", "\r", "From", "from a@b 5", "FROM a@b 5", " From a@b 5", "\tFrom a@b 5", ">From a@b 5", ">>From a@b 5", "\nFrom a@b 5", "x\nFrom a@b 5", "\rFrom a@b 5", "\x00From a@b 5", "\ufeffFrom a@b 5", "From: a@b 5", "From\ta@b 5", "Froma@b 5", "Fromm a@b 5", "FFrom a@b 5", "rom a@b 5", "a@b 5", "5",
	} {
		for behind := range behindFirst {
			parsesNone(t, "without the mark", first+"\n"+behind)
		}
	}
	for _, first := range []string{
		"From ", "From  ", "From 5", "From -", "From - ", "From a@b", "From a@b ", "From a@b  5", "From  a@b 5", "From  5", "From a@b 5 ", "From a@b 5 6", "From a@b 5\r", "From a@b 5 x", "From a@b 5x", "From a@b x5", "From a@b x", "From a@b\t5", "From a@b c@d 5", "From a@b - 5", "From a@b\n5", "From a@b 5,", "From <a@b> 5", "From a@b Mon Jan  1 00:00:00 2024",
	} {
		for behind := range behindFirst {
			parsesNone(t, "with the mark", first+"\n"+behind)
			parsesNone(t, "with the mark, the second one", "From a@b 5\nx\n\n"+first+"\n"+behind)
		}
	}
}

func TestParseFromThatMayNotBe(t *testing.T) {
	for _, from := range nobodys {
		if from == "-" {
			continue
		}
		parsesNone(t, "no mailbox", "From "+from+" 5\nx\n\n")
		parsesNone(t, "no mailbox, nothing else", "From "+from+" 0\n\n")
		parsesNone(t, "the first one", "From "+from+" 5\n\nFrom a@b 5\n\n")
		if !strings.HasPrefix(from, "\n") {
			parsesNone(t, "the last one", "From a@b 5\nx\n\nFrom "+from+" 5\nx\n\n")
		}
	}
	parsesNone(t, "nothing", "From  5\nx\n\n")
	parsesNone(t, "nothing, without its blank", "From 5\nx\n\n")
	parses(t, "nobody", "From - 5\nx\n\n", letter("", 5, "x\n"))
}

func TestParseAtThatIsWrittenOtherwise(t *testing.T) {
	for _, digits := range []string{
		"", "00", "01", "05", "007", "0000000000000000000", "00000000000000000000000005", "+5", "+0", "-0", "-1", "-5", "-9223372036854775808", "- 5", "+", "-", "5.", "5.0", ".5", "5e0", "1e3", "0x5", "0X5", "0b1", "0o7", "0_1", "1_000", "1,000", "1 000", "5s", "five", "٥", "５", "5\x00", "\x005", "\xff", "5\r", "\r5", "5\t", "\t5", "5 ", " 5", "NaN", "Inf",
	} {
		for _, at := range []string{digits, digits + " "} {
			parsesNone(t, "written otherwise", "From a@b "+at+"\nx\n\n")
			parsesNone(t, "written otherwise, of nobody", "From - "+at+"\n\n")
			parsesNone(t, "the second one", "From a@b 5\n\nFrom a@b "+at+"\nx\n\n")
		}
	}
	for c := range 256 {
		s := string([]byte{byte(c)})
		if s < "0" || s > "9" {
			parsesNone(t, "a byte ahead", "From a@b "+s+"5\n\n")
			if s != "\n" {
				parsesNone(t, "a byte in the midst", "From a@b 5"+s+"5\n\n")
				parsesNone(t, "a byte behind", "From a@b 5"+s+"\n\n")
				parsesNone(t, "a byte alone", "From a@b "+s+"\n\n")
			}
		}
	}
}

func TestParseAtThatIsTooGreat(t *testing.T) {
	parses(t, "the greatest", "From a@b 9223372036854775807\n\n", letter("a@b", math.MaxInt64, ""))
	for _, digits := range []string{
		"9223372036854775808", "9223372036854775809", "9223372036854775810", "9223372036854775817", "9999999999999999999", "10000000000000000000", "18446744073709551615", "18446744073709551616", "18446744073709551621", "36893488147419103232", "340282366920938463463374607431768211461", "1" + strings.Repeat("0", 100), strings.Repeat("9", 1<<20),
	} {
		parsesNone(t, "too great", "From a@b "+digits+"\nx\n\n")
		parsesNone(t, "too great, the second one", "From - 0\n\nFrom - "+digits+"\n\n")
	}
}

// Behind each letter there is a blank line, and no other takes its place.
func TestParseBlankLine(t *testing.T) {
	for behind, body := range behindFirst {
		parses(t, "with it", "From a@b 5\n"+behind, letter("a@b", 5, body))
		parses(t, "with it, twice", "From a@b 5\n"+behind+"From - 0\n"+behind, letter("a@b", 5, body), letter("", 0, body))
	}
	for _, body := range []string{"", "x\n", "x\n\ny\n", "\nx\n", ">\n", ">From x\n", " \n", "\r\n", "x\n\r\n", "x\n \n", "x\n\t\n", "x\n>\n", "x\n.\n", "x\n\x00\n", "x\n-\n"} {
		parsesNone(t, "without it", "From a@b 5\n"+body)
		parsesNone(t, "without it, the first one", "From a@b 5\n"+body+"From - 0\n\n")
		parsesNone(t, "without it, the second one", "From a@b 5\nx\n\nFrom - 0\n"+body)
		parses(t, "one more", "From a@b 5\n"+body+"\n\n", letter("a@b", 5, string(mbox.Unquote([]byte(body)))+"\n"))
		parsesNone(t, "without its end", "From a@b 5\n"+body+"x")
		parsesNone(t, "half of it", "From a@b 5\n"+body+"\r")
	}
	parsesNone(t, "one ahead of the first letter", "\nFrom a@b 5\nx\n\n")
	parsesNone(t, "blank lines alone", "\n")
	parsesNone(t, "blank lines alone", "\n\n\n")
}

// A line of a body that isn't quoted begins another letter, and that must be whole.
func TestParseBodyThatIsNotQuoted(t *testing.T) {
	for _, s := range []string{"From ", "From x", "From me to you", "From a@b", "From a 5", "From a@b 05", "From From "} {
		parsesNone(t, "the first line", "From a@b 5\n"+s+"\n\n")
		parsesNone(t, "behind a blank line", "From a@b 5\n\n"+s+"\n\n")
		parsesNone(t, "in the midst", "From a@b 5\nx\n"+s+"\ny\n\n")
		parsesNone(t, "in the midst, behind a blank line", "From a@b 5\nx\n\n"+s+"\ny\n\n")
		parsesNone(t, "the last line", "From a@b 5\nx\n"+s)
		parses(t, "quoted", "From a@b 5\nx\n>"+s+"\n\n", letter("a@b", 5, "x\n"+s+"\n"))
	}
	parsesNone(t, "a letter's first line, without a blank line ahead", "From a@b 5\nx\nFrom a@b 5\ny\n\n")
	parses(t, "a letter's first line, with one", "From a@b 5\nx\n\nFrom a@b 5\ny\n\n", letter("a@b", 5, "x\n"), letter("a@b", 5, "y\n"))
	parses(t, "without its blank", "From a@b 5\nFrom\nFrom:\n\n", letter("a@b", 5, "From\nFrom:\n"))
	parses(t, "not at the beginning of its line", "From a@b 5\n From a@b 5\nx\rFrom a@b 5\n\n", letter("a@b", 5, " From a@b 5\nx\rFrom a@b 5\n"))
}

func TestParseCutOffAtEachPlace(t *testing.T) {
	s := "From a.b@x.org 1234567890\nHi\n>From x\n>>From y\n> z\n\n"
	for n := 1; n < len(s); n++ {
		parsesNone(t, "cut off", s[:n])
		parsesNone(t, "cut off behind a whole one", s+s[:n])
		parsesNone(t, "cut off ahead of a whole one", s[:n]+s[:len(s)-1])
		if s[n:] != "\n" {
			parsesNone(t, "its beginning is cut off", s[n:])
		}
	}
}

// Parse answers nothing beside an error, whatever it has found ahead of the fault.
func TestParseFaultBehindManyLetters(t *testing.T) {
	many := strings.Repeat("From a@b 5\nx\n\n", 1000)
	for _, s := range []string{"x", "\nx", "From ", "From a@b 5", "From a@b 5\n", "From a@b 5\nx\n", "From a 5\n\n", "From a@b 05\n\n"} {
		parsesNone(t, "a fault at the end", many+s)
	}
}
