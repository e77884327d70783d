package mime_test

import (
	"math"
	"slices"
	"strconv"
	"strings"
	"testing"

	"scriptorium/api"
	"scriptorium/mime"
)

// hi is a message in which the first boundary stands.
const hi = "Subject: x\r\n--journal-0\r\nHi"

// ordinary is the lines of a report of one recipient and hi.
func ordinary() []string { return laid("journal-1", "a.b@x.org", "1234567890", []string{"c@d"}, hi) }

// Which one of those lines is what.
const (
	theRecipient = 8
	theEmpty     = 11 // ahead of the message
	theMessage   = 12
	theLast      = 13
)

// P11.3

func TestReadOrdinary(t *testing.T) {
	reads(t, "one", joined(ordinary()), envelope("a.b@x.org", 1234567890, "c@d"), hi)
	reads(t, "the least", joined(laid("journal-0", "", "0", []string{"c@d"}, "")), envelope("", 0, "c@d"), "")
	reads(t, "the greatest", joined(laid("journal-0", longest, "9223372036854775807", many(100), "x")), envelope(longest, math.MaxInt64, many(100)...), "x")
	reads(t, "the same again", joined(laid("journal-0", "a@b", "7", []string{"a@b", "c@d", "a@b"}, "x")), envelope("a@b", 7, "a@b", "c@d", "a@b"), "x")
}

func TestReadNothing(t *testing.T) {
	if e, b, err := mime.Read(nil); err != api.ErrMime || !same(e, api.Envelope{}) || len(b) != 0 {
		t.Errorf("of nil: got %s, %q, %d", told(e), b, err)
	}
	for _, s := range []string{"", "x", "\r\n", "\r\n\r\n", "MIME-Version: 1.0", "MIME-Version: 1.0\r\n", "--journal-0--\r\n", "\r\n--journal-0--\r\n", "Subject: x\r\n\r\nHi\r\n"} {
		readsNone(t, "none", s)
	}
}

func TestReadCutOffAtEachPlace(t *testing.T) {
	s := joined(ordinary())
	for n := range len(s) {
		readsNone(t, "cut off", s[:n])
		if s[n:] != "\r\n" {
			readsNone(t, "cut off, with a line's end", s[:n]+"\r\n")
		}
		if n > 0 {
			readsNone(t, "its beginning is cut off", s[n:])
			readsNone(t, "its beginning again", s+s[:n])
			readsNone(t, "its end again", s+s[n:])
		}
	}
	readsNone(t, "twice", s+s)
}

// Without a message two lines' ends stand one behind the other, and neither stands for both.
func TestReadCutOffWithoutAMessage(t *testing.T) {
	s := joined(laid("journal-0", "", "0", []string{"c@d"}, ""))
	front, ended := strings.CutSuffix(s, "\r\n\r\n\r\n--journal-0--\r\n")
	if !ended {
		t.Fatalf("the test's own: %q", s)
	}
	reads(t, "whole", front+"\r\n\r\n\r\n--journal-0--\r\n", envelope("", 0, "c@d"), "")
	reads(t, "an end more", front+"\r\n\r\n\r\n\r\n--journal-0--\r\n", envelope("", 0, "c@d"), "\r\n")
	readsNone(t, "an end less", front+"\r\n\r\n--journal-0--\r\n")
	readsNone(t, "two less", front+"\r\n--journal-0--\r\n")
	readsNone(t, "none of them", front+"--journal-0--\r\n")
	for n := range len(s) {
		readsNone(t, "cut off", s[:n])
	}
}

func TestReadBytesBehind(t *testing.T) {
	for _, l := range [][]string{ordinary(), laid("journal-0", "", "0", []string{"c@d"}, "")} {
		s, last := joined(l), l[len(l)-1]
		for _, more := range []string{"x", "\r", "\n", " ", "\x00", "\r\n", "\r\n\r\n", "-", "--", "--\r\n", ".\r\n", last, last + "\r\n", "\r\n" + last + "\r\n", "--journal-0", "x\r\n"} {
			readsNone(t, "behind the last line", s+more)
			readsNone(t, "ahead of the first line", more+s)
			readsNone(t, "within the last line", strings.TrimSuffix(s, "\r\n")+more+"\r\n")
		}
	}
}

func TestReadALineLess(t *testing.T) {
	for i := range ordinary() {
		if i != theMessage {
			readsNone(t, "without line "+strconv.Itoa(i), joined(slices.Delete(ordinary(), i, i+1)))
		}
	}
	// The line's end behind a message is there though the message has no byte.
	l := laid("journal-0", "a@b", "7", []string{"c@d"}, "")
	reads(t, "without a message", joined(l), envelope("a@b", 7, "c@d"), "")
	readsNone(t, "without a message and what stands behind it", joined(slices.Delete(l, theMessage, theLast)))
}

func TestReadALineMore(t *testing.T) {
	for i := range theEmpty + 1 {
		for _, more := range append(ordinary(), "", " ", "x", "X-More: x", "Sender: ", "Received: 7", "Recipient:", "Recipient: ", "recipient: e@f", "--journal-0", "--journal-1--", "\n") {
			switch {
			case i == theEmpty && more == "":
				// It stands ahead of the message then, and belongs to it.
				reads(t, "one more", joined(slices.Insert(ordinary(), i, more)), envelope("a.b@x.org", 1234567890, "c@d"), "\r\n"+hi)
			case strings.HasPrefix(more, "Recipient: c") && (i == theRecipient || i == theRecipient+1):
				reads(t, "one more", joined(slices.Insert(ordinary(), i, more)), envelope("a.b@x.org", 1234567890, "c@d", "c@d"), hi)
			default:
				readsNone(t, "one more ahead of line "+strconv.Itoa(i), joined(slices.Insert(ordinary(), i, more)))
			}
		}
	}
	readsNone(t, "the last one twice", joined(append(ordinary(), ordinary()[theLast])))
	reads(t, "one more of the message", joined(slices.Insert(ordinary(), theLast, "")), envelope("a.b@x.org", 1234567890, "c@d"), hi+"\r\n")
}

func TestReadLinesOutOfTheirOrder(t *testing.T) {
	for i := range ordinary() {
		for j := range i {
			l := ordinary()
			if l[i] != l[j] {
				l[i], l[j] = l[j], l[i]
				readsNone(t, "lines "+strconv.Itoa(j)+" and "+strconv.Itoa(i), joined(l))
			}
		}
	}
	l := laid("journal-0", "a@b", "7", []string{"g@h", "c@d", "e@f"}, "x")
	reads(t, "recipients as they stand", joined(l), envelope("a@b", 7, "g@h", "c@d", "e@f"), "x")
	for _, i := range []int{0, 1, 2, 3, 4, 5, 6, 7, 12, 13} {
		readsNone(t, "a recipient ahead of line "+strconv.Itoa(i), joined(slices.Insert(slices.Clone(l), i, "Recipient: i@j")))
	}
}

func TestReadLinesThatEndOtherwise(t *testing.T) {
	for i := range ordinary() {
		for _, end := range []string{"\n", "\r", "", " ", "\n\r", "\r\r\n", "\r\n\n", "\n\n", "\n\r\n", " \r\n", "\t\r\n", "\x00\r\n", "\r\n ", "\x0b", "\x0c", "\u0085", "\u2028"} {
			// What else than a line's end stands beside the message belongs to it.
			if (i == theEmpty || i == theMessage) && strings.Contains(end, "\r\n") {
				continue
			}
			var s strings.Builder
			for j, line := range ordinary() {
				if j == i {
					s.WriteString(line + end)
				} else {
					s.WriteString(line + "\r\n")
				}
			}
			readsNone(t, "line "+strconv.Itoa(i), s.String())
		}
	}
	readsNone(t, "all of them", strings.Join(ordinary(), "\n")+"\n")
}

func TestReadLinesThatAreWrittenOtherwise(t *testing.T) {
	replaced := func(old, other string) func(string) string {
		return func(s string) string { return strings.Replace(s, old, other, 1) }
	}
	for n, change := range []func(string) string{
		strings.ToUpper, strings.ToLower,
		func(s string) string { return " " + s },
		func(s string) string { return s + " " },
		func(s string) string { return s + ";" },
		func(s string) string { return s + "\x00" },
		func(s string) string { return "x" + s },
		func(s string) string { return "-" + s },
		func(s string) string { return strings.TrimPrefix(s, "-") },
		func(s string) string { return strings.TrimSuffix(s, "-") },
		func(s string) string { return strings.TrimSuffix(s, "--") },
		replaced(": ", ":"), replaced(": ", ":  "), replaced(": ", ":\t"), replaced(": ", " : "), replaced(": ", ":\r\n "), replaced(": ", ": <"),
		replaced("; ", ";"), replaced("; ", ";\r\n "), replaced("; ", "; charset=utf-8; "),
		replaced("1.0", "1.1"), replaced("1.0", "1"), replaced("mixed", "alternative"), replaced("journal-1", `"journal-1"`), replaced("journal-1", "journal-01"), replaced("journal-1", "journal-+1"),
		replaced("plain", "html"), replaced("plain", "plain; charset=utf-8"), replaced("rfc822", "rfc2822"), replaced("rfc822", "partial"), replaced("message/rfc822", "text/plain"), replaced("text/plain", "message/rfc822"),
		replaced("Sender", "From"), replaced("Received", "Date"), replaced("Recipient", "To"), replaced("Recipient", "Recipients"), replaced("Content-Type", "Content-type"), replaced("MIME", "Mime"),
	} {
		some := false
		for i, line := range ordinary() {
			l := ordinary()
			l[i] = change(line)
			if i != theMessage && l[i] != line {
				some = true
				readsNone(t, "line "+strconv.Itoa(i), joined(l))
			}
		}
		if !some {
			t.Errorf("the test's own: change %d changes nothing", n)
		}
	}
}

// with is a report of which each of those four is that boundary.
func with(top, first, second, last, body string) string {
	return "MIME-Version: 1.0\r\nContent-Type: multipart/mixed; boundary=" + top + "\r\n\r\n--" + first + "\r\nContent-Type: text/plain\r\n\r\nSender: a@b\r\nReceived: 7\r\nRecipient: c@d\r\n--" + second + "\r\nContent-Type: message/rfc822\r\n\r\n" + body + "\r\n--" + last + "--\r\n"
}

func TestReadBoundaryThatIsNotTheLeast(t *testing.T) {
	for _, body := range []string{"", "Hi\r\n", "--journal-0", "--journal-0\r\n--journal-1\r\n", "--journal-1", "--journal-10", "--journal-0 --journal-10", "\r\n--journal-0--\r\n", "--journal-"} {
		least := mime.Boundary([]byte(body))
		for _, n := range []string{"journal-0", "journal-1", "journal-2", "journal-3", "journal-10", "journal-11", "journal-100", "journal-", "journal-00", "journal-01", "journal--1", "journal-+0", "journal-0 ", " journal-0", "journal-x", "Journal-0", "journal", "0", "", "-", "--", "x", "\x00", "\xff", "journal-٠", "journal-18446744073709551616", "journal-" + strings.Repeat("9", 1000)} {
			if n == least {
				reads(t, "the least one", with(n, n, n, n, body), envelope("a@b", 7, "c@d"), body)
			} else {
				readsNone(t, "not the least one", with(n, n, n, n, body))
			}
		}
	}
}

func TestReadBoundaryThatIsNotTheSame(t *testing.T) {
	for _, body := range []string{"", "Hi", "--journal-0"} {
		n := mime.Boundary([]byte(body))
		for _, other := range []string{"journal-0", "journal-1", "journal-2", "journal-10", "journal-", "journal", "", "-", n + "0", n + "-", n + " ", n + "x", "-" + n, strings.ToUpper(n)} {
			if other == n {
				continue
			}
			for i := range 15 {
				four := []string{n, n, n, n}
				for j := range four {
					if i>>j&1 == 0 {
						four[j] = other
					}
				}
				readsNone(t, "not the same throughout", with(four[0], four[1], four[2], four[3], body))
			}
		}
	}
}

func TestReadFromThatMayNotBe(t *testing.T) {
	for _, from := range nobodys {
		readsNone(t, "no mailbox", joined(laid("journal-0", from, "7", []string{"c@d"}, "x")))
		readsNone(t, "no mailbox, nothing else", joined(laid("journal-0", from, "0", []string{"c@d"}, "")))
	}
	reads(t, "nobody", joined(laid("journal-0", "", "7", []string{"c@d"}, "x")), envelope("", 7, "c@d"), "x")
}

func TestReadRecipientsThatMayNotBe(t *testing.T) {
	readsNone(t, "none", joined(laid("journal-0", "a@b", "7", nil, "x")))
	readsNone(t, "none, nothing else", joined(laid("journal-0", "", "0", nil, "")))
	for _, to := range append([]string{""}, nobodys...) {
		// The text is one recipient and the beginning of another.
		if to == "a@b\r\nRecipient: c@d" {
			continue
		}
		readsNone(t, "alone", joined(laid("journal-0", "a@b", "7", []string{to}, "x")))
		for _, n := range []int{2, 3, 50, 100} {
			for _, i := range []int{0, 1, n / 2, n - 1} {
				l := many(n)
				l[i] = to
				readsNone(t, "among others", joined(laid("journal-0", "a@b", "7", l, "x")))
			}
		}
	}
	for _, n := range []int{101, 102, 200, 1000, 100_000} {
		readsNone(t, "too many", joined(laid("journal-0", "a@b", "7", many(n), "x")))
		readsNone(t, "too many, nothing else", joined(laid("journal-0", "", "0", many(n), "")))
	}
}

func TestReadAtThatIsWrittenOtherwise(t *testing.T) {
	for _, digits := range []string{
		"", "00", "01", "05", "007", "0000000000000000000", "00000000000000000000000005", "+5", "+0", "-0", "-1", "-5", "-9223372036854775808", "- 5", "+", "-", "5.", "5.0", ".5", "5e0", "1e3", "0x5", "0X5", "0b1", "0o7", "0_1", "1_000", "1,000", "1 000", "5s", "five", "٥", "５", "5\x00", "\x005", "\xff", "5\r", "\r5", "5\n", "5\t", "\t5", "5 ", " 5", "NaN", "Inf", "5\r\n", "\r\n5",
		"9223372036854775808", "9223372036854775809", "9223372036854775810", "9223372036854775817", "9999999999999999999", "10000000000000000000", "18446744073709551615", "18446744073709551616", "18446744073709551623", "36893488147419103239", "340282366920938463463374607431768211463", "1" + strings.Repeat("0", 100), strings.Repeat("9", 1<<20),
	} {
		readsNone(t, "written otherwise, or too great", joined(laid("journal-0", "a@b", digits, []string{"c@d"}, "x")))
		readsNone(t, "written otherwise, or too great, nothing else", joined(laid("journal-0", "", digits, []string{"c@d"}, "")))
	}
	for c := range 256 {
		s := string([]byte{byte(c)})
		if s < "0" || s > "9" {
			for _, digits := range []string{s, s + "5", "5" + s, "5" + s + "5"} {
				readsNone(t, "another byte", joined(laid("journal-0", "a@b", digits, []string{"c@d"}, "x")))
			}
		}
	}
}

func TestReadLongMessage(t *testing.T) {
	const most = 1_000_000
	e := envelope("a@b", 7, "c@d")
	for _, s := range []string{"x", "\r\n", "\r\n--journal-", "--journal-1\r\n"} {
		long := strings.Repeat(s, most/len(s)+1)
		reads(t, "the longest", joined(laid("journal-0", "a@b", "7", e.To, long[:most])), e, long[:most])
		readsNone(t, "one byte too many", joined(laid("journal-0", "a@b", "7", e.To, long[:most]+"x")))
		readsNone(t, "far too many", joined(laid("journal-0", "a@b", "7", e.To, strings.Repeat(long, 3))))
	}
}

// Of what may be no line's own text there may be as much as there will.
func TestReadLongLines(t *testing.T) {
	long := strings.Repeat("x", 1<<20)
	for i := range ordinary() {
		if i != theMessage {
			l := ordinary()
			l[i] += long
			readsNone(t, "line "+strconv.Itoa(i), joined(l))
		}
	}
	for _, s := range []string{"\r\n", "Recipient: a@b\r\n", "--journal-0\r\n", "MIME-Version: 1.0\r\n", joined(ordinary())} {
		readsNone(t, "again and again", strings.Repeat(s, 1<<20/len(s)))
	}
}
