package mime_test

import (
	"math"
	"slices"
	"strconv"
	"strings"
	"testing"

	"scriptorium/api"
	"scriptorium/mime"
)

// short is s as a test tells it.
func short(s string) string {
	if len(s) > 400 {
		return strconv.Quote(s[:200]) + " .. " + strconv.Quote(s[len(s)-50:]) + " (" + strconv.Itoa(len(s)) + " bytes)"
	}
	return strconv.Quote(s)
}

func envelope(from string, at int64, to ...string) api.Envelope {
	return api.Envelope{From: from, To: to, At: at}
}

// told is an envelope as a test tells it.
func told(e api.Envelope) string {
	return "(" + short(e.From) + " " + strconv.FormatInt(e.At, 10) + " " + strconv.Itoa(len(e.To)) + " recipients " + short(strings.Join(e.To[:min(len(e.To), 5)], ",")) + ")"
}

// laid is the lines of a report with that boundary and what else stands in it, whether there is such a one or not.
func laid(n, from, at string, to []string, body string) []string {
	l := []string{"MIME-Version: 1.0", "Content-Type: multipart/mixed; boundary=" + n, "", "--" + n, "Content-Type: text/plain", "", "Sender: " + from, "Received: " + at}
	for _, s := range to {
		l = append(l, "Recipient: "+s)
	}
	return append(l, "--"+n, "Content-Type: message/rfc822", "", body, "--"+n+"--")
}

// joined is those lines, each with its end.
func joined(l []string) string { return strings.Join(l, "\r\n") + "\r\n" }

// bounds fails the test unless Boundary answers that of s.
func bounds(t *testing.T, what, s, want string) {
	t.Helper()
	if got := mime.Boundary([]byte(s)); got != want {
		t.Errorf("%s: Boundary(%s): got %q, want %q", what, short(s), got, want)
	}
}

// reports fails the test unless Report answers the report with that boundary, and Read takes it back.
func reports(t *testing.T, what string, e api.Envelope, body, n string) {
	t.Helper()
	want := joined(laid(n, e.From, strconv.FormatInt(e.At, 10), e.To, body))
	r, err := mime.Report(e, []byte(body))
	if err != api.OK || string(r) != want {
		t.Errorf("%s: Report of %s, %s: got %s, %d, want %s", what, told(e), short(body), short(string(r)), err, short(want))
	}
	reads(t, what, want, e, body)
}

// reportsNone fails the test unless Report answers that error, and nothing beside it.
func reportsNone(t *testing.T, what string, want api.Errno, e api.Envelope, body string) {
	t.Helper()
	if r, err := mime.Report(e, []byte(body)); err != want || len(r) != 0 {
		t.Errorf("%s: Report of %s, %s: got %s, %d, want %d", what, told(e), short(body), short(string(r)), err, want)
	}
}

func same(e, f api.Envelope) bool {
	return e.From == f.From && slices.Equal(e.To, f.To) && e.At == f.At
}

// reads fails the test unless Read finds just that in r.
func reads(t *testing.T, what, r string, want api.Envelope, body string) {
	t.Helper()
	e, b, err := mime.Read([]byte(r))
	if err != api.OK || !same(e, want) || string(b) != body {
		t.Errorf("%s: Read(%s): got %s, %s, %d, want %s, %s", what, short(r), told(e), short(string(b)), err, told(want), short(body))
	}
}

// readsNone fails the test unless Read answers that r is nobody's report, and nothing beside it.
func readsNone(t *testing.T, what, r string) {
	t.Helper()
	if e, b, err := mime.Read([]byte(r)); err != api.ErrMime || !same(e, api.Envelope{}) || len(b) != 0 {
		t.Errorf("%s: Read(%s): got %s, %s, %d", what, short(r), told(e), short(string(b)), err)
	}
}

// P11.1

func TestBoundaryExample(t *testing.T) {
	bounds(t, "example", "--journal-0", "journal-1")
}

// without are bytes in which no boundary stands.
var without = []string{
	"", "x", "Subject: x\r\n\r\nHi\r\n", "0", "-", "--", "journal", "journal-0", "-journal-0", " -journal-0", "- -journal-0", "-\r\n-journal-0", "-- journal-0", "--\r\njournal-0", "--journal", "--journal-", "--journal-\r\n", "--journal-\r\n0", "--journal- 0", "--journal-x", "--journal-x0", "--journal--0", "--journal-+0", "--journal-.0", "--journal0", "--journal 0", "--journal_0", "--journal\x000", "--journal-\x000", "--journal-\xff", "--journal-٠", "--journal-０", "--Journal-0", "--JOURNAL-0", "--jOurnal-0", "--ournal-0", "--jurnal-0", "--journa-0", "--journal--", "--journal-journal-0", "--journal-/", "--journal-:", "––journal-0", "--journal‐0",
}

func TestBoundaryOfNone(t *testing.T) {
	for _, s := range without {
		bounds(t, "none in it", s, "journal-0")
		bounds(t, "none in it, between others", "x\r\n"+s+"\r\ny", "journal-0")
		bounds(t, "the first one behind it", s+"\r\n--journal-0", "journal-1")
		bounds(t, "the first one ahead of it", "--journal-0\r\n"+s, "journal-1")
	}
	if got := mime.Boundary(nil); got != "journal-0" {
		t.Errorf("of nil: got %q", got)
	}
}

// ahead and behind are texts beside a boundary's that make it no other one.
var (
	ahead  = []string{"", " ", "\r\n", "x", "-", "--", "-------", "0", "--journal", "--journal-", "--journal--", "journal-", "\x00", "\xff", "é"}
	behind = []string{"", " ", "\r\n", "x", "-", "--", "--\r\n", ".", "/", ":", "\x00", "\xff", "é", "٠", "--journal", "--journal-", "-journal-1"}
)

func TestBoundaryOfOne(t *testing.T) {
	for _, a := range ahead {
		for _, b := range behind {
			bounds(t, "0", a+"--journal-0"+b, "journal-1")
			for _, n := range []string{"1", "2", "9", "10", "11", "100", "4294967296", "9223372036854775807"} {
				bounds(t, "another one", a+"--journal-"+n+b, "journal-0")
			}
			bounds(t, "0 twice", a+"--journal-0"+b+"\r\n"+a+"--journal-0"+b, "journal-1")
		}
	}
}

// marks are boundaries' texts of those numbers, one behind the other with that between.
func marks(between string, numbers ...int) string {
	var l []string
	for _, n := range numbers {
		l = append(l, "--journal-"+strconv.Itoa(n))
	}
	return strings.Join(l, between)
}

func TestBoundaryOfMore(t *testing.T) {
	for _, between := range []string{"", " ", "\r\n", "-", "--", "--\r\n", "x", "--journal-", "--journal"} {
		var rising, falling []int
		for n := range 130 {
			bounds(t, "all up to it", marks(between, rising...), "journal-"+strconv.Itoa(n))
			bounds(t, "all up to it, falling", marks(between, falling...), "journal-"+strconv.Itoa(n))
			rising, falling = append(rising, n), append([]int{n}, falling...)
		}
		bounds(t, "0 and 1", marks(between, 0, 1), "journal-2")
		bounds(t, "0 and 2", marks(between, 0, 2), "journal-1")
		bounds(t, "1 and 2", marks(between, 1, 2), "journal-0")
		bounds(t, "some of them twice", marks(between, 1, 0, 1, 3, 0, 3), "journal-2")
		for n := range 10 {
			bounds(t, "one is missing among the first ones", marks(between, slices.Delete(slices.Clone(rising[:10]), n, n+1)...), "journal-"+strconv.Itoa(n))
		}
	}
}

// Where a number stands there stand all that it begins with.
func TestBoundaryOfNumbersThatBeginSo(t *testing.T) {
	bounds(t, "10 alone", marks("", 10), "journal-0")
	bounds(t, "1 as the beginning of 10", marks("\r\n", 0, 10), "journal-2")
	bounds(t, "1 and 12 as the beginning of 123", marks("\r\n", 0, 123), "journal-2")
	bounds(t, "behind 10, too", marks("\r\n", 10, 0), "journal-2")
	bounds(t, "all but 1, that is in 10", marks("\r\n", 0, 2, 3, 4, 5, 6, 7, 8, 9, 10), "journal-11")
	bounds(t, "all but 1, that is in 19", marks("\r\n", 0, 2, 3, 4, 5, 6, 7, 8, 9, 19), "journal-10")
	bounds(t, "2 as the beginning of 20", marks("\r\n", 0, 1, 20), "journal-3")
	bounds(t, "12 as the beginning of 1200", marks("\r\n", 0, 1, 2, 3, 4, 5, 6, 7, 8, 9, 10, 11, 1200), "journal-13")
	bounds(t, "a nought in front is 0", "--journal-01", "journal-1")
	bounds(t, "noughts in front are 0", "--journal-00001--journal-002", "journal-1")
	bounds(t, "the end of a number isn't it", marks(" ", 0, 21, 31), "journal-1")
}

// No byte but a digit goes on with a number, whichever one it would make.
func TestBoundaryOfOtherBytes(t *testing.T) {
	for c := range 256 {
		if '0' <= c && c <= '9' {
			continue
		}
		for _, digits := range []string{"", "1", "2"} {
			lead, _ := strconv.Atoi(digits)
			n := 10*lead + int(byte(c-'0'))
			var below []int
			for i := range n {
				below = append(below, i)
			}
			bounds(t, "another byte", marks("", below...)+"--journal-"+digits+string([]byte{byte(c)}), "journal-"+strconv.Itoa(n))
		}
	}
}

func TestBoundaryCutShort(t *testing.T) {
	s := marks("\r\n", 0, 1)
	for n := range len(s) {
		want := "journal-0"
		if n >= len("--journal-0") {
			want = "journal-1"
		}
		bounds(t, "1 is cut short", s[:n], want)
		bounds(t, "1 is cut short, with a line behind", s[:n]+"\r\n", want)
	}
	bounds(t, "1 is there", s, "journal-2")
	bounds(t, "10 is cut short to 1", marks("\r\n", 0, 10)[:len(s)], "journal-2")
	bounds(t, "10 is cut short to no digit", marks("\r\n", 0, 10)[:len(s)-1], "journal-1")
	for n := 1; n <= len("--journal-"); n++ {
		bounds(t, "the beginning is cut off", "--journal-0"[n:], "journal-0")
		bounds(t, "the beginning of 1 is cut off", "--journal-0 "+"--journal-1"[n:], "journal-1")
	}
}

// Boundaries' texts may lie over each other by their dashes.
func TestBoundaryOverEachOther(t *testing.T) {
	for s, want := range map[string]string{
		"---journal-0":                              "journal-1",
		"--journal--journal-0":                      "journal-1",
		"--journal---journal-0":                     "journal-1",
		"--journal--journal--journal-0":             "journal-1",
		"--journal-0--journal-1":                    "journal-2",
		"--journal-0---journal-1":                   "journal-2",
		"--journal-0-journal-1":                     "journal-1",
		"--journal-journal-0":                       "journal-0",
		"----journal-0":                             "journal-1",
		"--journal--journal-0--journal--journal-1":  "journal-2",
		"--journal-1--journal--journal-0":           "journal-2",
		"--journal-0--journal-":                     "journal-1",
		"--journal-0--journal-1--journal-2--":       "journal-3",
		"--journal-0\n--journal-1\r--journal-2\x00": "journal-3",
	} {
		bounds(t, "over each other", s, want)
	}
}

func TestBoundaryOfGreatNumbers(t *testing.T) {
	for _, n := range []string{"2147483648", "4294967296", "4294967298", "9223372036854775807", "9223372036854775808", "18446744073709551615", "18446744073709551616", "18446744073709551618", "340282366920938463463374607431768211458"} {
		bounds(t, "a great one alone", "--journal-"+n, "journal-0")
		bounds(t, "a great one", marks("\r\n", 0, 1)+"--journal-"+n, map[bool]string{true: "journal-3", false: "journal-2"}[n[0] == '2'])
	}
	for c := '1'; c <= '9'; c++ {
		bounds(t, "many digits", "--journal-"+strings.Repeat(string(c), 1<<20), "journal-0")
	}
	bounds(t, "many noughts", "--journal-"+strings.Repeat("0", 1<<20), "journal-1")
	bounds(t, "1 and many noughts", marks(" ", 0, 2, 3)+"--journal-1"+strings.Repeat("0", 1<<20), "journal-4")
}

func TestBoundaryOfManyNumbers(t *testing.T) {
	var all []int
	for n := range 100_000 {
		all = append(all, n)
	}
	bounds(t, "all of them", marks("", all...), "journal-100000")
	bounds(t, "all but one", marks("\r\n", slices.Delete(all, 77_777, 77_778)...), "journal-77777")
}

func TestBoundaryOfLongBytes(t *testing.T) {
	const n = 1 << 20
	for _, s := range []string{"x", "-", "--", "--journal", "--journal-", "journal-", "\r\n", "--journal-1", "--journal-9 "} {
		bounds(t, "long", strings.Repeat(s, n), "journal-0")
		bounds(t, "long, 0 behind", strings.Repeat(s, n)+"\r\n--journal-0\r\n", map[bool]string{true: "journal-2", false: "journal-1"}[s == "--journal-1"])
	}
	bounds(t, "0 again and again", strings.Repeat("--journal-0", n), "journal-1")
}

// P11.2

// The report is written out here, line by line.
func TestReportOrdinary(t *testing.T) {
	r, err := mime.Report(envelope("a@b", 7, "c@d", "e.f@g.org"), []byte("Subject: x\r\n\r\n--journal-0\r\n"))
	want := "MIME-Version: 1.0\r\n" +
		"Content-Type: multipart/mixed; boundary=journal-1\r\n" +
		"\r\n" +
		"--journal-1\r\n" +
		"Content-Type: text/plain\r\n" +
		"\r\n" +
		"Sender: a@b\r\n" +
		"Received: 7\r\n" +
		"Recipient: c@d\r\n" +
		"Recipient: e.f@g.org\r\n" +
		"--journal-1\r\n" +
		"Content-Type: message/rfc822\r\n" +
		"\r\n" +
		"Subject: x\r\n" +
		"\r\n" +
		"--journal-0\r\n" +
		"\r\n" +
		"--journal-1--\r\n"
	if err != api.OK || string(r) != want {
		t.Errorf("got %q, %d", r, err)
	}
}

// longest has a mailbox's longest parts.
var longest = strings.Repeat("a", 64) + "@" + strings.Repeat(strings.Repeat("b", 63)+".", 3) + strings.Repeat("c", 63)

// somebodys are texts that are mailboxes.
var somebodys = []string{"a@b", "A@B", "a.b@x.org", "-@b", "--journal-0@b", "journal-0@journal-0", "0@0", "Recipient@x", "!#$%&'*+-/=?^_{|}~`@x", longest}

// nobodys are texts that are neither nothing nor mailboxes.
var nobodys = []string{
	"-", " ", "  ", "a", "@", "a@", "@b", "a@b ", " a@b", "a @b", "a b@c", "a@b c", "a@b\n", "a@b\r\n", "\na@b", "\r\na@b", "a@b\nc@d", "a@b\r\nReceived: 5", "a@b\r\nRecipient: c@d", "a@b\r", "a@b\x00", "<a@b>", "<>", "a@b@c", "a..b@c", ".a@b", "a.@b", "a@b..c", "a@-b", "a@b-", "a@.b", "a@b.", "a@b,c@d", "é@b", "a@é", "a@\xff", "\"a\"@b", "a@[1.2.3.4]",
	"a" + longest, longest + "c",
}

func TestReportFrom(t *testing.T) {
	reports(t, "nobody", envelope("", 7, "c@d"), "x\r\n", "journal-0")
	for _, from := range somebodys {
		reports(t, "somebody", envelope(from, 7, "c@d"), "x\r\n", "journal-0")
		reports(t, "somebody, to himself", envelope(from, 7, from, from), "x\r\n", "journal-0")
	}
	for _, from := range nobodys {
		reportsNone(t, "no mailbox", api.ErrMime, envelope(from, 7, "c@d"), "x\r\n")
		reportsNone(t, "no mailbox, nothing else", api.ErrMime, envelope(from, 0, "c@d"), "")
	}
}

// many are n mailboxes, each another one.
func many(n int) []string {
	var l []string
	for i := range n {
		l = append(l, "to"+strconv.Itoa(i)+"@x.org")
	}
	return l
}

func TestReportTo(t *testing.T) {
	for _, to := range somebodys {
		reports(t, "one", envelope("a@b", 7, to), "x\r\n", "journal-0")
		reports(t, "two", envelope("", 7, to, "c@d"), "x\r\n", "journal-0")
		reports(t, "the same again", envelope("a@b", 7, to, "c@d", to, to), "x\r\n", "journal-0")
	}
	for _, n := range []int{1, 2, 3, 10, 50, 98, 99, 100} {
		reports(t, "many", envelope("a@b", 7, many(n)...), "x\r\n", "journal-0")
		l := many(n)
		slices.Reverse(l)
		reports(t, "in their order", envelope("a@b", 7, l...), "x\r\n", "journal-0")
		reports(t, "long ones", envelope(longest, 7, slices.Repeat([]string{longest}, n)...), "x\r\n", "journal-0")
	}
}

func TestReportToThatMayNotBe(t *testing.T) {
	for _, l := range [][]string{nil, {}, many(3)[:0]} {
		reportsNone(t, "no recipient at all", api.ErrMime, envelope("a@b", 7, l...), "x\r\n")
		reportsNone(t, "no recipient at all, nothing else", api.ErrMime, envelope("", 0, l...), "")
	}
	for _, to := range append([]string{""}, nobodys...) {
		reportsNone(t, "alone", api.ErrMime, envelope("a@b", 7, to), "x\r\n")
		for _, n := range []int{2, 3, 50, 100} {
			for _, i := range []int{0, 1, n / 2, n - 1} {
				l := many(n)
				l[i] = to
				reportsNone(t, "among others", api.ErrMime, envelope("a@b", 7, l...), "x\r\n")
			}
		}
	}
}

func TestReportAt(t *testing.T) {
	for at := int64(1); at > 0 && at <= math.MaxInt64/10; at *= 10 {
		for _, n := range []int64{at - 1, at, at + 1, at * 9, at * 10} {
			reports(t, "a time", envelope("a@b", n, "c@d"), "x\r\n", "journal-0")
		}
	}
	for _, n := range []int64{0, 1 << 31, 1 << 32, math.MaxInt64 - 1, math.MaxInt64} {
		reports(t, "an edge", envelope("a@b", n, "c@d"), "x\r\n", "journal-0")
	}
	r, err := mime.Report(envelope("a@b", math.MaxInt64, "c@d"), nil)
	if err != api.OK || !strings.Contains(string(r), "\r\nReceived: 9223372036854775807\r\n") {
		t.Errorf("the greatest: got %q, %d", r, err)
	}
	for _, n := range []int64{-1, -2, -10, math.MinInt32, math.MinInt64 + 1, math.MinInt64} {
		reportsNone(t, "below 0", api.ErrMime, envelope("a@b", n, "c@d"), "x\r\n")
		reportsNone(t, "below 0, nothing else", api.ErrMime, envelope("", n, "c@d"), "")
	}
}

func TestReportBody(t *testing.T) {
	e := envelope("a@b", 7, "c@d")
	for _, body := range []string{
		"", "x", "\r\n", "\r\n\r\n", "x\r\n", "x\r\ny", "x\r\n\r\n", "\r\nx", "\r", "\n", "x\r", "x\n", "x\n\r", "\x00", "\xff\xfe", "é", ".\r\n", "-", "--", "--\r\n", "\r\n--", "\r\n--\r\n", "\r\n----\r\n", "Subject: x\r\n\r\nHi\r\n",
		"MIME-Version: 1.0\r\n", "Recipient: x@y\r\n", "Content-Type: message/rfc822\r\n\r\n", "From x\n", ">From x\n", "--journal\r\n", "--journal-\r\n", "--journal---\r\n", "\r\n--journal--", "--journal-1\r\n", "\r\n--journal-1--\r\n", "--journal-10--\r\n", "--Journal-0--\r\n", "-journal-0--\r\n", "journal-0",
	} {
		reports(t, "plain", e, body, "journal-0")
		reports(t, "plain, twice", e, body+" "+body, "journal-0")
		reports(t, "plain, with 0 behind", e, body+"\r\n--journal-0", map[bool]string{true: "journal-2", false: "journal-1"}[strings.Contains(body, "--journal-1")])
	}
	for _, body := range []string{"--journal-0", "--journal-0\r\n", "--journal-0--", "--journal-0--\r\n", "\r\n--journal-0--\r\n", "\r\n--journal-0\r\n", "x--journal-0x", "--journal-02--\r\n"} {
		reports(t, "looks like a boundary", e, body, "journal-1")
		reports(t, "looks like two", e, body+"\r\n--journal-1--\r\n", "journal-2")
		reports(t, "looks like 0 and 10", e, body+"\r\n--journal-10--\r\n", "journal-2")
		reports(t, "looks like 0 and 2", e, body+"\r\n--journal-2--\r\n", "journal-1")
	}
}

// What looks like a boundary in the envelope is none of the message's.
func TestReportBoundaryIsTheMessages(t *testing.T) {
	e := envelope("--journal-0@x", 7, "--journal-0@x", "c@x--journal-0.y", "--journal-1--@z")
	reports(t, "boundaries in the envelope", e, "x\r\n", "journal-0")
	reports(t, "boundaries in both", e, "--journal-0", "journal-1")
}

// A report as a message is one, and not what it has.
func TestReportOfAReport(t *testing.T) {
	s := "Hi\r\n"
	for n := range 12 {
		e := envelope("a@b", int64(n), many(n+1)...)
		reports(t, "a report", e, s, "journal-"+strconv.Itoa(n))
		r, err := mime.Report(e, []byte(s))
		if err != api.OK {
			t.Fatal(err)
		}
		s = string(r)
	}
}

func TestReportLongBody(t *testing.T) {
	const most = 1_000_000
	e := envelope("a@b", 7, "c@d")
	for _, s := range []string{"x", "\r\n", "x\r\n", "-", "--journal-", "\x00", "\n"} {
		long := strings.Repeat(s, most/len(s)+1)
		reports(t, "the longest", e, long[:most], "journal-0")
		reports(t, "ahead of the longest", e, long[:most-1], "journal-0")
		reportsNone(t, "one byte too many", api.ErrLong, e, strings.Repeat(s, most/len(s)+1)[:most]+"x")
		reportsNone(t, "far too many", api.ErrLong, e, strings.Repeat(long, 3))
	}
	reports(t, "the longest, to 100", envelope(longest, math.MaxInt64, slices.Repeat([]string{longest}, 100)...), strings.Repeat("x", most), "journal-0")
}

func TestReportTooManyRecipients(t *testing.T) {
	for _, n := range []int{101, 102, 200, 1000, 100_000} {
		reportsNone(t, "too many", api.ErrLong, envelope("a@b", 7, many(n)...), "x\r\n")
		reportsNone(t, "too many, nothing else", api.ErrLong, envelope("", 0, many(n)...), "")
		reportsNone(t, "too many, the same one", api.ErrLong, envelope("", 0, slices.Repeat([]string{"a@b"}, n)...), "")
	}
}

// ErrMime is named ahead of ErrLong.
func TestReportErrorsInTheirOrder(t *testing.T) {
	long := strings.Repeat("x", 1_000_001)
	reportsNone(t, "both too long", api.ErrLong, envelope("a@b", 7, many(101)...), long)
	for _, body := range []string{"", "x\r\n", long} {
		for _, n := range []int{1, 100, 101, 1000} {
			reportsNone(t, "From", api.ErrMime, envelope("a", 7, many(n)...), body)
			reportsNone(t, "At", api.ErrMime, envelope("a@b", -1, many(n)...), body)
			reportsNone(t, "From and At", api.ErrMime, envelope("a", -1, many(n)...), body)
			for _, i := range []int{0, n / 2, n - 1} {
				l := many(n)
				l[i] = ""
				reportsNone(t, "To", api.ErrMime, envelope("a@b", 7, l...), body)
				l[i] = "a"
				reportsNone(t, "all of them", api.ErrMime, envelope("a", -1, l...), body)
			}
		}
		reportsNone(t, "no recipient", api.ErrMime, envelope("a@b", 7), body)
		reportsNone(t, "nothing that may be", api.ErrMime, envelope("a", -1), body)
	}
	l := many(200)
	l[150] = "a b@c"
	reportsNone(t, "To behind those that are too many", api.ErrMime, envelope("a@b", 7, l...), "x\r\n")
}
