package mime_test

import (
	"math"
	"math/rand/v2"
	"regexp"
	"slices"
	"strconv"
	"strings"
	"testing"
	"unsafe"

	"scriptorium/api"
	"scriptorium/mime"
	"scriptorium/path"
)

// aReport is what a report looks like, and a number's digits: what Read is held against.
var (
	aReport = regexp.MustCompile(`\AMIME-Version: 1\.0\r\nContent-Type: multipart/mixed; boundary=([^\r\n]*)\r\n\r\n--([^\r\n]*)\r\nContent-Type: text/plain\r\n\r\n` +
		`Sender: ([^\r\n]*)\r\nReceived: (0|[1-9][0-9]{0,18})\r\n((?:Recipient: [^\r\n]*\r\n){1,100})--([^\r\n]*)\r\nContent-Type: message/rfc822\r\n\r\n((?s:.*))\r\n--([^\r\n]*)--\r\n\z`)
	aRecipient = regexp.MustCompile(`Recipient: ([^\r\n]*)\r\n`)
)

// least is what the chapter says of Boundary, over again.
func least(s string) string {
	for n := 0; ; n++ {
		if b := "journal-" + strconv.Itoa(n); !strings.Contains(s, "--"+b) {
			return b
		}
	}
}

// found is what the chapter says of Read, over again: all at once by a pattern.
func found(s string) (api.Envelope, string, bool) {
	m := aReport.FindStringSubmatch(s)
	if m == nil || m[1] != m[2] || m[1] != m[6] || m[1] != m[8] || m[1] != least(m[7]) || len(m[7]) > 1_000_000 || m[3] != "" && !path.Mailbox(m[3]) {
		return api.Envelope{}, "", false
	}
	e := api.Envelope{From: m[3]}
	for _, x := range aRecipient.FindAllStringSubmatch(m[5], -1) {
		if !path.Mailbox(x[1]) {
			return api.Envelope{}, "", false
		}
		e.To = append(e.To, x[1])
	}
	if len(m[4]) == 19 && m[4] > "9223372036854775807" {
		return api.Envelope{}, "", false
	}
	for _, c := range m[4] {
		e.At = 10*e.At + int64(c-'0')
	}
	return e, m[7], true
}

// holds fails the test unless the calls answer of s what the chapter says, as bytes for a boundary, as a report and as a message.
func holds(t *testing.T, s string) {
	t.Helper()
	bounds(t, "a model", s, least(s))
	if e, body, ok := found(s); ok {
		reports(t, "a model", e, body, least(body))
	} else {
		readsNone(t, "a model", s)
	}
	reports(t, "a model's message", envelope("a@b", int64(len(s)), "c@d"), s, least(s))
}

// drawOf is n of those pieces, which look drawn by lot.
func drawOf(r *rand.Rand, from []string, n int) string {
	var s strings.Builder
	for range n {
		s.WriteString(from[r.IntN(len(from))])
	}
	return s.String()
}

// markPieces are what bytes with boundaries in them are put together from, pieces what messages are, reportPieces what looks like reports.
var (
	markPieces   = []string{"-", "--", "journal", "-", "0", "1", "2", "10", "--journal-", "--journal-0", "--journal-1", "--journal-2", "--journal-3", "\r\n", "x"}
	pieces       = append([]string{"\r\n", "\r", "\n", "\x00", "\xff", "é", "Subject: x", "a line of words", "\r\n\r\n", "\r\n--journal-0--\r\n", "Recipient: a@b\r\n", "."}, markPieces...)
	reportPieces = append(joinedEach(ordinary()), "MIME-Version: 1.0\r\n", "Sender: \r\n", "Received: 0\r\n", "Received: ", "Recipient: ", "7", "a@b", "--journal-0\r\n", "--journal-0--\r\n", "journal-1", "\r\n", "-", "x", " ")
)

// joinedEach is those lines, each with its end.
func joinedEach(l []string) []string {
	for i := range l {
		l[i] += "\r\n"
	}
	return l
}

// drawEnvelope is one that looks drawn by lot.
func drawEnvelope(r *rand.Rand) api.Envelope {
	names := []string{"a@b", "-@b", "--journal-0@b", "a.b@x-y.org", "c@d", "0@0"}
	e := envelope(append(names, "")[r.IntN(len(names)+1)], r.Int64()>>r.IntN(63))
	for range 1 + r.IntN(5) {
		e.To = append(e.To, names[r.IntN(len(names))])
	}
	return e
}

// comesBack fails the test unless Read of Report is what Report was given.
func comesBack(t *testing.T, e api.Envelope, body string) string {
	t.Helper()
	r, err := mime.Report(e, []byte(body))
	if err != api.OK {
		t.Errorf("back: Report of %s, %s: got %d", told(e), short(body), err)
	}
	reads(t, "back", string(r), e, body)
	return string(r)
}

// P11.4

func TestBackOfManyReports(t *testing.T) {
	r := rand.New(rand.NewPCG(11, 4))
	for n := range 10_000 {
		comesBack(t, drawEnvelope(r), drawOf(r, pieces, n%100))
		comesBack(t, drawEnvelope(r), drawOf(r, markPieces, n%100))
	}
}

func TestBackOfEachByte(t *testing.T) {
	for c := range 256 {
		b := string([]byte{byte(c)})
		for _, s := range []string{b, b + b, b + "\r\n", "\r\n" + b, b + "\r", "\n" + b, "--journal-0" + b, b + "--journal-0", "--journal-" + b, "\r\n--journal-0--\r\n" + b, b + "\r\n--journal-0--\r\n"} {
			comesBack(t, envelope("a@b", int64(c), "c@d", "e@f"), s)
		}
	}
}

// A report within a report, and so on: each comes back.
func TestBackOfReportsWithinReports(t *testing.T) {
	r := rand.New(rand.NewPCG(11, 5))
	for range 200 {
		s := drawOf(r, pieces, 5)
		for range 12 {
			s = comesBack(t, drawEnvelope(r), s)
		}
	}
}

// The rules of all layers

// P1: any bytes.
func TestAnyBytes(t *testing.T) {
	r := rand.New(rand.NewPCG(11, 1))
	var all []string
	for c := range 256 {
		all = append(all, string([]byte{byte(c)}))
	}
	for _, from := range [][]string{markPieces, markPieces[:7], markPieces[8:], pieces, reportPieces, all, append(slices.Repeat(pieces, 10), all...)} {
		for range 4000 {
			holds(t, drawOf(r, from, r.IntN(20)))
		}
		for range 30 {
			holds(t, drawOf(r, from, 100+r.IntN(2000)))
		}
	}
}

// What a change makes of a report is another one, or none.
func TestAnyChange(t *testing.T) {
	r := rand.New(rand.NewPCG(11, 2))
	for range 4000 {
		b, _ := mime.Report(drawEnvelope(r), []byte(drawOf(r, pieces, r.IntN(6))))
		s := string(b)
		at := r.IntN(len(s))
		holds(t, s[:at]+s[at+1:])
		holds(t, s[:at]+drawOf(r, []string{"\n", "\r", " ", "0", "1", "-", "@", "a", "\x00"}, 1)+s[at+1:])
		holds(t, s[:at]+drawOf(r, reportPieces, 1)+s[at:])
		holds(t, s[:at]+s[at+r.IntN(min(len(s)-at, 30)):])
		l := strings.SplitAfter(s, "\r\n")
		i, j := r.IntN(len(l)), r.IntN(len(l))
		holds(t, strings.Join(slices.Delete(slices.Clone(l), i, i+1), ""))
		holds(t, strings.Join(slices.Insert(slices.Clone(l), i, l[j]), ""))
		l[i], l[j] = l[j], l[i]
		holds(t, strings.Join(l, ""))
	}
}

// Each byte of a report is another one, in turn.
func TestAnyByteIsAnother(t *testing.T) {
	s := joined(laid("journal-0", "a@b", "10", []string{"c@d", "e@f"}, "x\r\ny"))
	for at := range len(s) {
		for c := range 256 {
			holds(t, s[:at]+string([]byte{byte(c)})+s[at+1:])
		}
	}
}

// P1: any envelopes.
func TestAnyEnvelope(t *testing.T) {
	r := rand.New(rand.NewPCG(11, 3))
	for range 10_000 {
		e, body := drawEnvelope(r), drawOf(r, pieces, r.IntN(5))
		wild := drawOf(r, []string{"a", "@", ".", "-", " ", "\r\n", "b"}, r.IntN(6))
		switch r.IntN(6) {
		case 0:
			e.From = wild
		case 1:
			e.To[r.IntN(len(e.To))] = wild
		case 2:
			e.At = int64(r.Uint64())
		case 3:
			e.To = e.To[:r.IntN(2)]
		case 4:
			e.To = slices.Repeat(e.To, r.IntN(60))
		}
		switch {
		case e.From != "" && !path.Mailbox(e.From) || len(e.To) == 0 || slices.ContainsFunc(e.To, func(s string) bool { return !path.Mailbox(s) }) || e.At < 0:
			reportsNone(t, "a model", api.ErrMime, e, body)
		case len(e.To) > 100:
			reportsNone(t, "a model", api.ErrLong, e, body)
		default:
			reports(t, "a model", e, body, least(body))
		}
	}
}

// grown does do with s and with each text that is s and up to n of those pieces.
func grown(s string, n int, from []string, do func(string)) {
	do(s)
	if n == 0 {
		return
	}
	for _, p := range from {
		grown(s+p, n-1, from, do)
	}
}

// Each text of up to so many of those by which boundaries are told.
func TestAllShortTexts(t *testing.T) {
	grown("", 7, []string{"-", "-journal", "-", "0", "1"}, func(s string) { bounds(t, "a model", s, least(s)) })
	grown("--journal-0--journal-1", 6, []string{"--journal-", "-", "0", "1", "2"}, func(s string) { bounds(t, "a model", s, least(s)) })
	grown("", 5, []string{"\r\n", "--journal-0", "--", "x", "\r", "\n"}, func(s string) { holds(t, s) })
}

// Each way to lay up to so many lines between a report's first ones and its last ones.
func TestAllShortReports(t *testing.T) {
	top := joined(ordinary()[:6])
	end := "\r\n--journal-1--\r\n"
	grown(top, 6, []string{"Sender: a@b\r\n", "Received: 7\r\n", "Recipient: c@d\r\n", "--journal-1\r\n", "Content-Type: message/rfc822\r\n", "\r\n", "--journal-0"}, func(s string) {
		if _, _, ok := found(s + end); !ok {
			readsNone(t, "a model", s+end)
		}
	})
	grown(top+"Sender: \r\nReceived: 7\r\n", 5, []string{"Recipient: c@d\r\n", "--journal-1\r\n", "Content-Type: message/rfc822\r\n", "\r\n", "--journal-0"}, func(s string) { holds(t, s+end) })
}

func FuzzAnyBytes(f *testing.F) {
	for _, s := range append(slices.Clone(given), without...) {
		f.Add(s)
	}
	f.Fuzz(holds)
}

// P2

// given are reports, and what is none.
var given = []string{
	"", "x", "--journal-0", "--journal-0\r\n--journal-1", joined(ordinary()), joined(laid("journal-0", "", "0", []string{"c@d"}, "")), joined(laid("journal-0", "a@b", "7", many(100), "Hi\r\n")), joined(laid("journal-0", longest, "9223372036854775807", []string{"c@d", "c@d"}, "\r\n")),
	joined(laid("journal-1", "a@b", "7", []string{"c@d"}, "x")), joined(laid("journal-0", "a@b", "7", many(101), "x")), joined(ordinary()[:theLast]),
}

// envelopes are some of which there are reports, and some of which there are none.
func envelopes() []api.Envelope {
	return []api.Envelope{
		envelope("a@b", 7, "c@d"), envelope("", 0, "c@d", "e@f", "c@d"), envelope("a@b", 7, many(100)...), {}, envelope("a", 7, "c@d"), envelope("a@b", 7, "c@d", ""), envelope("a@b", -1, "c@d"), envelope("a@b", 7, many(101)...),
	}
}

// What stands behind the bytes that are given would end them, or go on with them.
var behindAll = []string{"\r\n", "0", "1", "--journal-0", "\r\n--journal-0--\r\n", "x", "behind all"}

// fill writes over all of b, and over what lies behind its length.
func fill(b []byte) {
	for i := range b[:cap(b)] {
		b[:cap(b)][i] = '!'
	}
}

func TestBytesAreLeft(t *testing.T) {
	for _, s := range given {
		for _, behind := range behindAll {
			whole := []byte(s + behind + strings.Repeat("#", 100))
			b := whole[:len(s)]
			bounds(t, "with bytes behind", string(b), mime.Boundary(b))
			for _, e := range envelopes() {
				r, err := mime.Report(e, b)
				if alone, errAlone := mime.Report(e, []byte(s)); string(r) != string(alone) || err != errAlone {
					t.Errorf("Report of %q with %q behind: got %q, %d, want %q, %d", s, behind, r, err, alone, errAlone)
				}
				fill(r)
			}
			_, body, err := mime.Read(b)
			if _, _, ok := found(s); ok != (err == api.OK) {
				t.Errorf("Read of %q with %q behind: got %d", s, behind, err)
			}
			fill(body)
			if string(whole) != s+behind+strings.Repeat("#", 100) {
				t.Errorf("%q and %q were changed: %q", s, behind, whole)
			}
		}
	}
}

func TestRecipientsAreLeft(t *testing.T) {
	for i, e := range envelopes() {
		for _, behind := range []string{"g@h", "", "a", "behind all"} {
			whole := append(slices.Clone(e.To), behind, behind)
			want := slices.Clone(whole)
			r, err := mime.Report(api.Envelope{From: e.From, To: whole[:len(e.To)], At: e.At}, []byte("Hi"))
			if alone, errAlone := mime.Report(envelopes()[i], []byte("Hi")); string(r) != string(alone) || err != errAlone {
				t.Errorf("%s with %q behind: got %q, %d, want %q, %d", told(e), behind, r, err, alone, errAlone)
			}
			if !slices.Equal(whole, want) {
				t.Errorf("%s with %q behind were changed: %q", told(e), behind, whole)
			}
		}
	}
}

// What was answered stays, whatever becomes of the memory in which the argument stood.
func TestAnswersShareNothingWithArguments(t *testing.T) {
	for _, s := range given {
		b := []byte(s)
		n := mime.Boundary(b)
		e, body, _ := mime.Read(b)
		r, _ := mime.Report(envelopes()[0], b)
		fill(b)
		if want := least(s); n != want {
			t.Errorf("%q: Boundary shares memory with it: got %q", s, n)
		}
		if want, wantBody, _ := found(s); !same(e, want) || string(body) != wantBody {
			t.Errorf("%q: Read shares memory with it: got %s, %q", s, told(e), body)
		}
		if want, _ := mime.Report(envelopes()[0], []byte(s)); string(r) != string(want) {
			t.Errorf("%q: Report shares memory with it: got %q", s, r)
		}
	}
	for i, e := range envelopes() {
		r, _ := mime.Report(e, []byte("Hi"))
		clear(e.To)
		if want, _ := mime.Report(envelopes()[i], []byte("Hi")); string(r) != string(want) {
			t.Errorf("%s: Report shares memory with it: got %q", told(e), r)
		}
	}
}

// overlap is whether two lists share memory, that behind their lengths with it.
func overlap(a, b []byte) bool {
	if cap(a) == 0 || cap(b) == 0 {
		return false
	}
	x, y := uintptr(unsafe.Pointer(unsafe.SliceData(a))), uintptr(unsafe.Pointer(unsafe.SliceData(b)))
	return x < y+uintptr(cap(b)) && y < x+uintptr(cap(a))
}

// bytesOf is a text's own memory.
func bytesOf(s string) []byte { return unsafe.Slice(unsafe.StringData(s), len(s)) }

// answers are all bytes that the calls answer of b, and the lists of texts.
func answers(b []byte) ([][]byte, [][]string) {
	e, body, _ := mime.Read(b)
	r, _ := mime.Report(envelopes()[0], b)
	again, _ := mime.Report(e, body)
	all := [][]byte{body, r, again, bytesOf(mime.Boundary(b)), bytesOf(e.From)}
	for _, to := range e.To {
		all = append(all, bytesOf(to))
	}
	return all, [][]string{e.To}
}

func TestAnswersShareNothingWithEachOther(t *testing.T) {
	for _, s := range given {
		b := []byte(s)
		all, lists := answers(b)
		more, moreLists := answers(b)
		all, lists = append(all, more...), append(lists, moreLists...)
		for i, x := range all {
			if overlap(x, b) {
				t.Errorf("%q: answer %d shares memory with it", s, i)
			}
			for j, y := range all[:i] {
				if overlap(x, y) {
					t.Errorf("%q: answers %d and %d share memory", s, i, j)
				}
			}
		}
		if a, z := lists[0], lists[1]; len(a) > 0 && &a[0] == &z[0] {
			t.Errorf("%q: the recipients share memory", s)
		}
	}
}

// What lies behind a list's length is no part of it, though it would end it.
func TestWhatLiesBehindIsNotRead(t *testing.T) {
	for _, s := range []string{joined(ordinary()), "--journal-0--journal-1--journal-10"} {
		whole := []byte(s + "0--journal-1--\r\n")
		for n := range len(whole) + 1 {
			alone := string(whole[:n])
			if got := mime.Boundary(whole[:n]); got != least(alone) {
				t.Errorf("Boundary(%q): got %q", alone, got)
			}
			want, wantBody, ok := found(alone)
			if e, body, err := mime.Read(whole[:n]); !same(e, want) || string(body) != wantBody || ok != (err == api.OK) {
				t.Errorf("Read(%q): got %s, %q, %d", alone, told(e), body, err)
			}
		}
	}
}

// P3

func TestNilIsNothing(t *testing.T) {
	want := joined(laid("journal-0", "a@b", "7", []string{"c@d"}, ""))
	for _, b := range [][]byte{nil, {}, []byte("--journal-0")[:0], make([]byte, 0, 10)} {
		if got := mime.Boundary(b); got != "journal-0" {
			t.Errorf("%#v: Boundary: got %q", b, got)
		}
		if r, err := mime.Report(envelope("a@b", 7, "c@d"), b); string(r) != want || err != api.OK {
			t.Errorf("%#v: Report: got %q, %d", b, r, err)
		}
		if e, body, err := mime.Read(b); !same(e, api.Envelope{}) || len(body) != 0 || err != api.ErrMime {
			t.Errorf("%#v: Read: got %s, %q, %d", b, told(e), body, err)
		}
	}
	for _, to := range [][]string{nil, {}, {"c@d"}, make([]string, 0, 10)} {
		reportsNone(t, "no recipient", api.ErrMime, api.Envelope{From: "a@b", To: to[:0], At: 7}, "x")
		reportsNone(t, "no recipient, too long", api.ErrMime, api.Envelope{To: to[:0]}, strings.Repeat("x", 1_000_001))
	}
}

// What a call answers doesn't hang on those ahead, nor on what became of their answers.
func TestAnswersHangOnArgumentsAlone(t *testing.T) {
	for i, s := range given {
		e, body, _ := mime.Read([]byte(s))
		r, _ := mime.Report(envelopes()[i%len(envelopes())], []byte(s))
		fill(body)
		fill(r)
		clear(e.To)
		reports(t, "the same as ever", envelope("a@b", 7, "c@d"), "--journal-0", "journal-1")
		reportsNone(t, "the same as ever", api.ErrMime, envelope("a", 7, "c@d"), "x")
		readsNone(t, "the same as ever", "")
		reports(t, "the same as ever", envelope("", math.MaxInt64, many(i+1)...), s, least(s))
		if e, body, ok := found(s); ok {
			reads(t, "the same as ever", s, e, body)
		}
	}
}
