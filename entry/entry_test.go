package entry_test

import (
	"math"
	"slices"
	"strconv"
	"strings"
	"testing"

	"scriptorium/api"
	"scriptorium/entry"
)

// What a class may have.
const small = "abcdefghijklmnopqrstuvwxyz"

// short is s as a test tells it.
func short(s string) string {
	if len(s) > 300 {
		return strconv.Quote(s[:200]) + " .. " + strconv.Quote(s[len(s)-50:]) + " (" + strconv.Itoa(len(s)) + " bytes)"
	}
	return strconv.Quote(s)
}

// each tells each byte of s as a text.
func each(s string) []string { return strings.Split(s, "") }

// asBytes are those texts as bytes.
func asBytes(l []string) [][]byte {
	var all [][]byte
	for _, s := range l {
		all = append(all, []byte(s))
	}
	return all
}

// put is what the chapter says of Put, over again.
func put(l ...string) string {
	var b strings.Builder
	for _, s := range l {
		b.WriteString(strconv.Itoa(len(s)) + ":" + s + ",")
	}
	return b.String()
}

// puts fails the test unless Put of those answers that.
func puts(t *testing.T, what, want string, l ...string) {
	t.Helper()
	if got := string(entry.Put(asBytes(l)...)); got != want {
		t.Errorf("%s: Put of %d parts: got %s, want %s", what, len(l), short(got), short(want))
	}
}

// takes fails the test unless Take finds just that part in s, and that behind it.
func takes(t *testing.T, what, s, part, rest string) {
	t.Helper()
	p, behind, ok := entry.Take([]byte(s))
	if !ok || string(p) != part || string(behind) != rest {
		t.Errorf("%s: Take(%s): got %s, %s, %v, want %s, %s", what, short(s), short(string(p)), short(string(behind)), ok, short(part), short(rest))
	}
}

// takesNone fails the test unless Take finds no part in s, and answers s.
func takesNone(t *testing.T, what, s string) {
	t.Helper()
	p, behind, ok := entry.Take([]byte(s))
	if ok || len(p) != 0 || string(behind) != s {
		t.Errorf("%s: Take(%s): got %s, %s, %v", what, short(s), short(string(p)), short(string(behind)), ok)
	}
}

// of is the message of those.
func of(id int64, class, from string, at int64, body string, to ...string) api.Message {
	return api.Message{ID: id, Class: class, Env: api.Envelope{From: from, To: to, At: at}, Body: []byte(body)}
}

// ordinary is a message on which most tests stand.
func ordinary() api.Message {
	return of(7, "legal", "a.b@x.org", 1234567890, "Subject: x\r\n\r\nHi\r\n", "c@d", "e.f@g.org")
}

// sent is the ordinary message with another envelope.
func sent(from string, at int64, to ...string) api.Message {
	return of(7, "legal", from, at, "Hi\r\n", to...)
}

// texts are those of m's parts, whether it may be or not.
func texts(m api.Message) []string {
	l := []string{strconv.FormatInt(m.ID, 10), m.Class, m.Env.From, strconv.FormatInt(m.Env.At, 10), strconv.Itoa(len(m.Env.To))}
	return append(append(l, m.Env.To...), string(m.Body))
}

// told is a message as a test tells it.
func told(m api.Message) string {
	return short(strings.Join(texts(m), " "))
}

// alike is whether two messages are the same one.
func alike(m, n api.Message) bool { return slices.Equal(texts(m), texts(n)) }

// encodes fails the test unless Encode answers the parts of m, and Decode takes them back.
func encodes(t *testing.T, what string, m api.Message) {
	t.Helper()
	want := put(texts(m)...)
	if b, err := entry.Encode(m); err != api.OK || string(b) != want {
		t.Errorf("%s: Encode of %s: got %s, %d, want %s", what, told(m), short(string(b)), err, short(want))
	}
	decodes(t, what, want, m)
}

// encodesNone fails the test unless Encode refuses m, and Decode refuses what it would have been.
func encodesNone(t *testing.T, what string, m api.Message) {
	t.Helper()
	if b, err := entry.Encode(m); err != api.ErrEntry || len(b) != 0 {
		t.Errorf("%s: Encode of %s: got %s, %d", what, told(m), short(string(b)), err)
	}
	decodesNone(t, what, put(texts(m)...))
}

// decodes fails the test unless Decode finds just that message in s.
func decodes(t *testing.T, what, s string, want api.Message) {
	t.Helper()
	if m, err := entry.Decode([]byte(s)); err != api.OK || !alike(m, want) {
		t.Errorf("%s: Decode(%s): got %s, %d, want %s", what, short(s), told(m), err, told(want))
	}
}

// decodesNone fails the test unless Decode answers that s is nobody's, and nothing beside it.
func decodesNone(t *testing.T, what, s string) {
	t.Helper()
	if m, err := entry.Decode([]byte(s)); err != api.ErrEntry || !alike(m, api.Message{}) {
		t.Errorf("%s: Decode(%s): got %s, %d", what, short(s), told(m), err)
	}
}

// checks fails the test unless Check takes m's envelope and body, and Encode takes m.
func checks(t *testing.T, what string, m api.Message) {
	t.Helper()
	if err := entry.Check(m.Env, m.Body); err != api.OK {
		t.Errorf("%s: Check of %s: got %d", what, told(m), err)
	}
	encodes(t, what, m)
}

// checksNone fails the test unless Check refuses m's envelope and body, and Encode refuses m.
func checksNone(t *testing.T, what string, m api.Message) {
	t.Helper()
	if err := entry.Check(m.Env, m.Body); err != api.ErrEntry {
		t.Errorf("%s: Check of %s: got %d", what, told(m), err)
	}
	encodesNone(t, what, m)
}

// P15.1

// The chapter's example, and a message of short parts, written out.
func TestExamples(t *testing.T) {
	puts(t, "example", "2:ab,0:,", "ab", "")
	takes(t, "example", "2:ab,0:,", "ab", "0:,")
	takes(t, "example", "0:,", "", "")
	m := of(7, "a", "", 12, "x,y", "a@b", "c@d")
	if b, err := entry.Encode(m); err != api.OK || string(b) != "1:7,1:a,0:,2:12,1:2,3:a@b,3:c@d,3:x,y," {
		t.Errorf("got %q, %d", b, err)
	}
	decodes(t, "example", "1:7,1:a,0:,2:12,1:2,3:a@b,3:c@d,3:x,y,", m)
}

func TestPutHowMany(t *testing.T) {
	puts(t, "none", "")
	puts(t, "one of nothing", "0:,", "")
	puts(t, "one", "1:a,", "a")
	puts(t, "two", "1:a,2:bc,", "a", "bc")
	puts(t, "in their order", "2:bc,1:a,", "bc", "a")
	puts(t, "the same again", "1:a,1:a,1:a,", "a", "a", "a")
	puts(t, "nothings", "0:,0:,0:,", "", "", "")
	for n := range 300 {
		puts(t, "many of nothing", strings.Repeat("0:,", n), slices.Repeat([]string{""}, n)...)
		puts(t, "many", strings.Repeat("2:xy,", n), slices.Repeat([]string{"xy"}, n)...)
	}
	puts(t, "very many", strings.Repeat("1:a,0:,", 1<<16), slices.Repeat([]string{"a", ""}, 1<<16)...)
}

// odd are parts that have what parts are told by.
var odd = []string{
	"", "0", "1", "9", "007", "-1", "+1", ":", ",", "::", ",,", ":,", ",:", "0:,", "0:", ":0", ",0", "1:a,", "2:ab,", "3:ab,", "1:ab,", "1:a", "1,a:", "a,1:b", "0:,0:,", "1:7,1:a,0:,2:12,",
	"a", "ab", " ", " 1", "1 ", "x,y", "x:y", "\r\n", "\n", "\x00", "\x000", "\xff", "\xff\xfe", "é", "é,", "\u0661:", "\uff11:a,", ".\r\n", "a@b", "From x\n",
}

func TestPutOfPartsThatLookLikeMore(t *testing.T) {
	for _, s := range odd {
		own := strconv.Itoa(len(s)) + ":" + s + ","
		puts(t, "alone", own, s)
		puts(t, "behind another", "1:a,"+own, "a", s)
		puts(t, "ahead of another", own+"1:a,", s, "a")
		puts(t, "twice", own+own, s, s)
		puts(t, "with nothing between", own+"0:,"+own, s, "", s)
		puts(t, "a part of a part", strconv.Itoa(len(own))+":"+own+",", own)
	}
}

func TestPutLengths(t *testing.T) {
	for n, digits := range map[int]string{
		0: "0", 1: "1", 8: "8", 9: "9", 10: "10", 11: "11", 19: "19", 20: "20", 98: "98", 99: "99", 100: "100", 101: "101", 255: "255", 256: "256", 999: "999", 1000: "1000", 1001: "1001", 9999: "9999", 10_000: "10000",
		65_535: "65535", 65_536: "65536", 99_999: "99999", 100_000: "100000", 999_999: "999999", 1_000_000: "1000000", 1_000_001: "1000001", 3_000_000: "3000000",
	} {
		for _, s := range []string{"x", "0", ":", ",", "1:"} {
			part := strings.Repeat(s, n)[:n]
			puts(t, "long", digits+":"+part+",", part)
			puts(t, "long, between others", "1:a,"+digits+":"+part+",0:,", "a", part, "")
			if n > 1_000_000 {
				takesNone(t, "above the bound", digits+":"+part+",")
			} else {
				takes(t, "long", digits+":"+part+",", part, "")
				takes(t, "long", digits+":"+part+",1:a,", part, "1:a,")
			}
		}
	}
	for n := range 1200 {
		s := strings.Repeat("x", n)
		puts(t, "each length", strconv.Itoa(n)+":"+s+",", s)
		takes(t, "each length", strconv.Itoa(n)+":"+s+",y", s, "y")
	}
}

func TestTakeNothing(t *testing.T) {
	takesNone(t, "nothing", "")
	for _, s := range []string{"x", "0", "1", "10", ":", ",", "0:", "1:", ":,", ",:", "0,", "::,", ",,", "0::", "0:x", "0:x,", "0 :,", "a:b,", "ab,", ":a,", "1:a", "1a,", "1,a", "1,a:", "1;a,", "1:a;", "1:", "1:,", "2:a,", "1::", "0:0:,"} {
		takesNone(t, "no part", s)
		takesNone(t, "a part isn't looked for", s+put("a"))
		takesNone(t, "a part isn't looked for", "x"+put(s))
	}
}

func TestTakeAPartAndWhatStandsBehind(t *testing.T) {
	for _, s := range odd {
		for _, rest := range odd {
			takes(t, "a part", put(s)+rest, s, rest)
		}
		takes(t, "a part behind", put(s, "a", ""), s, "1:a,0:,")
		takes(t, "a part of a part", put(put(s)), put(s), "")
	}
	for c := range 256 {
		b := string([]byte{byte(c)})
		takes(t, "a byte", "1:"+b+",", b, "")
		takes(t, "a byte behind", "1:a,"+b, "a", b)
		takes(t, "bytes", "3:"+b+b+b+","+b+b, b+b+b, b+b)
	}
	takes(t, "much behind", "1:a,"+strings.Repeat("x", 3_000_000), "a", strings.Repeat("x", 3_000_000))
}

func TestTakeAtEachPlaceCutOff(t *testing.T) {
	for _, s := range []string{"", "x", "ab", ",", "1:a,", "0123456789", strings.Repeat("x", 100)} {
		whole := put(s)
		for n := range len(whole) {
			takesNone(t, "its end is cut off", whole[:n])
		}
		takes(t, "whole", whole, s, "")
	}
	whole := "10:0123456789,"
	takes(t, "whole", whole, "0123456789", "")
	for n := 1; n < len(whole); n++ {
		takesNone(t, "its beginning is cut off", whole[n:])
	}
}

// What stands where the colon or the comma should is no other byte.
func TestTakeOtherBytesBetween(t *testing.T) {
	for c := range 256 {
		b := string([]byte{byte(c)})
		if b != ":" {
			takesNone(t, "no colon", "1"+b+"a,")
			takesNone(t, "no colon, nothing in it", "0"+b+",")
			takesNone(t, "no colon, but behind", "2"+b+"a:,")
			if b < "0" || b > "9" {
				takesNone(t, "no colon, but one more", "2"+b+":ab,")
			}
		}
		if b != "," {
			takesNone(t, "no comma", "1:a"+b)
			takesNone(t, "no comma, but behind", "1:a"+b+",")
			takesNone(t, "no comma, nothing in it", "0:"+b)
			takesNone(t, "no comma, nothing in it, but behind", "0:"+b+",")
		}
	}
	takesNone(t, "the comma lacks", "2:ab")
	takesNone(t, "the comma lacks, a part behind", "2:ab1:a,")
	takesNone(t, "the colon lacks", "2ab,")
	takesNone(t, "the colon lacks, a part behind", "2ab,1:a,")
	takesNone(t, "both lack", "2ab")
	takesNone(t, "the other way round", "2,ab:")
}

func TestTakeLengthsThatAreWrittenOtherwise(t *testing.T) {
	for _, digits := range []string{
		"", "01", "001", "0000000001", strings.Repeat("0", 100) + "1", "+1", "-1", "--1", "+-1", "- 1", "+", "-", " 1", "1 ", " 1 ", "\t1", "1\t", "\n1", "1\n", "\r\n1", "1\r\n", " ", "a", "a1", "1a", "x", "one", "1.0", "1.", ".1", "1e0", "0x1", "0X1", "0b1", "0o1", "1_", "_1", "0_1", "\x001", "1\x00", "\xff", "\u0661", "\uff11", "\u00b9", "NaN", "1,", ",1", "1:", ":1", "1;", "(1)",
	} {
		for _, rest := range []string{"", "x", "1:a,", ","} {
			takesNone(t, "written otherwise", digits+":a,"+rest)
		}
	}
	for _, digits := range []string{"", "00", "000", "+0", "-0", " 0", "0 ", "a", "0x0", "0x", "\x00", "-", "+", strings.Repeat("0", 1<<20)} {
		takesNone(t, "nothing, written otherwise", digits+":,")
		takesNone(t, "nothing, written otherwise, a part behind", digits+":,1:a,")
	}
	for _, n := range []int{9, 10, 99, 100, 1_000_000} {
		s := strings.Repeat("x", n)
		for _, sign := range []string{"0", "00", "+", "-", " "} {
			takesNone(t, "something ahead", sign+put(s))
		}
	}
	for c := range 256 {
		b := string([]byte{byte(c)})
		if b < "0" || b > "9" {
			takesNone(t, "another byte", b+":a,")
			takesNone(t, "another byte ahead", b+"1:a,")
			takesNone(t, "another byte behind", "1"+b+":a,")
			takesNone(t, "another byte between", "1"+b+"0:0123456789,")
		}
	}
}

func TestTakeLengthsThatAreOneOff(t *testing.T) {
	for _, n := range []int{1, 2, 8, 9, 10, 11, 98, 99, 100, 101, 999, 1000, 100_000, 999_999, 1_000_000} {
		s := strings.Repeat("x", n)
		takesNone(t, "one less", strconv.Itoa(n-1)+":"+s+",")
		takesNone(t, "one more", strconv.Itoa(n+1)+":"+s+",")
		takesNone(t, "one more, a part behind", strconv.Itoa(n+1)+":"+s+",1:a,")
		takesNone(t, "ten times", strconv.Itoa(n)+"0:"+s+",")
		takes(t, "one less, a comma in it", strconv.Itoa(n-1)+":"+s[1:]+",,", s[1:], ",")
		if n < 1_000_000 {
			takes(t, "one more, a comma behind", strconv.Itoa(n+1)+":"+s+",,x", s+",", "x")
		}
	}
	takesNone(t, "one more than nothing", "1:,")
	takes(t, "one more than nothing, a comma behind", "1:,,", ",", "")
	takesNone(t, "less than nothing", "-1:,")
	takesNone(t, "less than nothing", "-1:a,")
}

func TestTakeTheBound(t *testing.T) {
	for _, s := range []string{"x", ",", ":", "1:a,", "\x00", "\xff"} {
		long := strings.Repeat(s, 1_000_001)[:1_000_001]
		for _, rest := range []string{"", "x", ",", "0:,"} {
			takes(t, "ahead of the bound", "999999:"+long[:999_999]+","+rest, long[:999_999], rest)
			takes(t, "the bound", "1000000:"+long[:1_000_000]+","+rest, long[:1_000_000], rest)
			takesNone(t, "one above it", "1000001:"+long+","+rest)
		}
		takesNone(t, "far above it", put(strings.Repeat(long, 3)))
	}
}

func TestTakeGreatLengths(t *testing.T) {
	for _, digits := range []string{
		"1000001", "2147483647", "2147483648", "4294967295", "4294967296", "4294967297", "4294967298", "9223372036854775806", "9223372036854775807", "9223372036854775808", "9223372036854775809", "18446744073709551615", "18446744073709551616", "18446744073709551617", "18446744073709551618",
		"36893488147419103233", "340282366920938463463374607431768211456", "340282366920938463463374607431768211457", strings.Repeat("9", 1000), "1" + strings.Repeat("0", 1<<20), strings.Repeat("1", 1<<20),
	} {
		for _, part := range []string{"", "a", "ab", strings.Repeat("x", 1000)} {
			takesNone(t, "great", digits+":"+part+",")
			takesNone(t, "great, below 0", "-"+digits+":"+part+",")
			takesNone(t, "great, no comma", digits+":"+part)
		}
		takesNone(t, "great, and no more", digits)
		takesNone(t, "great, and no more than the colon", digits+":")
	}
}

// P15.2

// longest has a mailbox's longest parts.
var longest = strings.Repeat("a", 64) + "@" + strings.Repeat(strings.Repeat("b", 63)+".", 3) + strings.Repeat("c", 63)

// somebodys are texts that are mailboxes.
var somebodys = []string{"a@b", "A@B", "a.b@x.org", "-@b", "0@0", "7@1.2.3.4", "a@B-c.D", "!#$%&'*+-/=?^_{|}~`@x", longest}

// nobodys are texts that are neither nothing nor mailboxes.
var nobodys = []string{
	"-", " ", "  ", "a", "@", "a@", "@b", "a@b ", " a@b", "a @b", "a b@c", "a@b c", "a@b\n", "a@b\r\n", "\r\na@b", "a@b\nc@d", "a@b\x00", "\x00", "<a@b>", "<>", "a@b@c", "a..b@c", ".a@b", "a.@b", "a@b..c", "a@-b", "a@b-", "a@.b", "a@b.", "a@b_c", "a@b,c@d", "a@b,", ",", ":", "3:a@b,", "a:b@c", "a,b@c", "é@b", "a@é", "\xff", "a@\xff", "\"a\"@b", "a@[1.2.3.4]",
	"a" + longest, longest + "c", strings.Repeat("a", 1<<20), strings.Repeat("a", 1<<20) + "@b",
}

// many are n mailboxes, each another one.
func many(n int) []string {
	var l []string
	for i := range n {
		l = append(l, "to"+strconv.Itoa(i)+"@x.org")
	}
	return l
}

func TestCheckOrdinary(t *testing.T) {
	checks(t, "ordinary", ordinary())
	checks(t, "the least", of(1, "a", "", 0, "", "a@b"))
	checks(t, "the greatest", of(api.MaxID, small[:20], longest, math.MaxInt64, strings.Repeat("x", 500_000), slices.Repeat([]string{longest}, 100)...))
	checksNone(t, "nothing at all", api.Message{})
	checksNone(t, "an envelope without anything", of(1, "a", "", 0, ""))
}

func TestCheckFrom(t *testing.T) {
	checks(t, "nobody", sent("", 7, "c@d"))
	for _, s := range somebodys {
		checks(t, "somebody", sent(s, 7, "c@d"))
		checks(t, "somebody, to many", sent(s, 7, many(100)...))
		checks(t, "somebody, to himself", sent(s, 7, s, s))
	}
	for _, s := range nobodys {
		checksNone(t, "no mailbox", sent(s, 7, "c@d"))
		checksNone(t, "no mailbox, to many", sent(s, 7, many(100)...))
		checksNone(t, "no mailbox, nothing else", of(1, "a", s, 0, "", "c@d"))
	}
}

func TestCheckTo(t *testing.T) {
	for _, s := range somebodys {
		checks(t, "one", sent("a@b", 7, s))
		checks(t, "two", sent("", 7, s, "c@d"))
		checks(t, "the same again", sent("a@b", 7, s, "c@d", s, s))
	}
	for n := 1; n <= 100; n++ {
		checks(t, "many", sent("a@b", 7, many(n)...))
		l := many(n)
		slices.Reverse(l)
		checks(t, "in their order", sent("", 7, l...))
		checks(t, "all alike", sent("a@b", 7, slices.Repeat([]string{"c@d"}, n)...))
	}
	for _, n := range []int{0, 101, 102, 110, 200, 256, 1000, 100_000} {
		checksNone(t, "none, or too many", sent("a@b", 7, many(n)...))
		checksNone(t, "none, or too many, nothing else", of(1, "a", "", 0, "", many(n)...))
		checksNone(t, "none, or too many, all alike", sent("", 7, slices.Repeat([]string{"c@d"}, n)...))
	}
}

func TestCheckToThatMayNotBe(t *testing.T) {
	for _, s := range append([]string{""}, nobodys...) {
		checksNone(t, "alone", sent("a@b", 7, s))
		checksNone(t, "alone, nobody sends", of(1, "a", "", 0, "", s))
		for _, n := range []int{2, 3, 100} {
			for _, at := range []int{0, 1, n / 2, n - 1} {
				l := many(n)
				l[at] = s
				checksNone(t, "among others", sent("a@b", 7, l...))
			}
		}
		checksNone(t, "all of them", sent("a@b", 7, s, s, s))
	}
}

func TestCheckAt(t *testing.T) {
	for at := int64(1); at > 0 && at <= math.MaxInt64/10; at *= 10 {
		for _, n := range []int64{at - 1, at, at + 1, at * 9, at * 10} {
			checks(t, "a time", sent("a@b", n, "c@d"))
		}
	}
	for _, n := range []int64{0, 1, 1 << 31, 1 << 32, api.MaxID, api.MaxID + 1, math.MaxInt64 - 1, math.MaxInt64} {
		checks(t, "an edge", sent("a@b", n, "c@d"))
	}
	for _, n := range []int64{-1, -2, -9, -10, math.MinInt32, -1 << 32, -1<<32 + 1, math.MinInt64 + 1, math.MinInt64} {
		checksNone(t, "below 0", sent("a@b", n, "c@d"))
		checksNone(t, "below 0, nothing else", of(1, "a", "", n, "", "c@d"))
	}
}

func TestCheckBody(t *testing.T) {
	for _, s := range append(slices.Clone(odd), "Subject: x\r\n\r\nHi\r\n", strings.Repeat("x", 9), strings.Repeat("x", 10), strings.Repeat("x", 99), strings.Repeat("x", 100)) {
		checks(t, "a body", of(7, "a", "a@b", 5, s, "c@d"))
		checks(t, "a message as a body", of(8, "a", "a@b", 5, put(texts(of(7, "a", "a@b", 5, s, "c@d"))...), "c@d"))
	}
	for _, s := range []string{"x", "\r\n", "1:a,", ",", "\x00", "\xff", "é"} {
		long := strings.Repeat(s, 3_000_000)
		for _, n := range []int{499_999, 500_000} {
			checks(t, "up to the bound", of(7, "a", "a@b", 5, long[:n], "c@d"))
			checks(t, "up to the bound, to many", of(7, "a", "", 5, long[:n], many(100)...))
		}
		for _, n := range []int{500_001, 500_002, 999_999, 1_000_000, 1_000_001, 3_000_000} {
			checksNone(t, "above it", of(7, "a", "a@b", 5, long[:n], "c@d"))
			checksNone(t, "above it, to many", of(7, "a", "", 5, long[:n], many(100)...))
		}
	}
}

// However much of it may not be, it is refused all the same.
func TestCheckOfMoreThanOneFault(t *testing.T) {
	long := strings.Repeat("x", 500_001)
	for _, from := range []string{"", "a@b", "a"} {
		for _, to := range [][]string{{"c@d"}, nil, {""}, {"c"}, many(101)} {
			for _, at := range []int64{0, -1} {
				for _, body := range []string{"", long} {
					m := of(7, "a", from, at, body, to...)
					if from == "a" || len(to) != 1 || to[0] != "c@d" || at < 0 || body == long {
						checksNone(t, "faults", m)
					} else {
						checks(t, "no fault", m)
					}
				}
			}
		}
	}
}

// P15.3

// withID is the ordinary message with another number, as withClass is with another class.
func withID(id int64) api.Message {
	m := ordinary()
	m.ID = id
	return m
}

func withClass(class string) api.Message {
	m := ordinary()
	m.Class = class
	return m
}

// The parts are written out here.
func TestEncodeOrdinary(t *testing.T) {
	want := "1:7,5:legal,9:a.b@x.org,10:1234567890,1:2,3:c@d,9:e.f@g.org,18:Subject: x\r\n\r\nHi\r\n,"
	if b, err := entry.Encode(ordinary()); err != api.OK || string(b) != want {
		t.Errorf("got %q, %d", b, err)
	}
	b, err := entry.Encode(of(api.MaxID, "z", "", math.MaxInt64, "", many(10)...))
	want = "13:1099511627776,1:z,0:,19:9223372036854775807,2:10,9:to0@x.org,9:to1@x.org,9:to2@x.org,9:to3@x.org,9:to4@x.org,9:to5@x.org,9:to6@x.org,9:to7@x.org,9:to8@x.org,9:to9@x.org,0:,"
	if err != api.OK || string(b) != want {
		t.Errorf("got %q, %d", b, err)
	}
}

func TestEncodeID(t *testing.T) {
	for id := int64(1); id <= api.MaxID/10; id *= 10 {
		for _, n := range []int64{id, id + 1, id * 9, id*10 - 1, id * 10} {
			encodes(t, "a number", withID(n))
		}
	}
	for _, n := range []int64{1, 2, 1<<31 - 1, 1 << 31, 1<<32 - 1, 1 << 32, 1<<32 + 1, 1<<40 - 2, 1<<40 - 1, 1 << 40, api.MaxID} {
		encodes(t, "an edge", withID(n))
	}
	for _, n := range []int64{0, api.MaxID + 1, 1<<40 + 2, 9_999_999_999_999, 1 << 41, 1 << 48, math.MaxInt64 - 1, math.MaxInt64, -1, -2, -7, -api.MaxID, -1 << 32, -1<<32 + 7, math.MinInt64, math.MinInt64 + 1, math.MinInt64 + 7} {
		encodesNone(t, "none", withID(n))
		encodesNone(t, "none, nothing else", of(n, "a", "", 0, "", "a@b"))
	}
}

func TestEncodeClass(t *testing.T) {
	for _, s := range append(each(small), "all", "legal", "aa", "az", "za", small[:19], small[:20], small[6:]) {
		encodes(t, "a class", withClass(s))
		encodes(t, "a class, nothing else", of(1, s, "", 0, "", "a@b"))
	}
	for n := range 300 {
		for _, s := range []string{"a", "z", small} {
			long := withClass(strings.Repeat(s, n)[:n])
			if n >= 1 && n <= 20 {
				encodes(t, "long", long)
			} else {
				encodesNone(t, "long, or nothing", long)
			}
		}
	}
	encodesNone(t, "very long", withClass(strings.Repeat("a", 1<<20)))
	for _, s := range []string{
		"", " ", "A", "Z", "Legal", "LEGAL", "legaL", "leGal", "0", "9", "1legal", "legal1", "le1gal", " legal", "legal ", "le gal", "le-gal", "le.gal", "le_gal", "legal\n", "\nlegal", "legal\r\n", "legal\x00", "\x00", "le:gal", "le,gal", "legal,", ":", ",", "@", "`", "{", "a@b",
		"é", "légal", "ä", "ß", "ﬁ", "д", "α", "ª", "ａ", "ı", "\u017f", "\u212a", "a\u0301", "\xff", "\x80", "\xe1", "\xc1\xa1",
	} {
		encodesNone(t, "no class", withClass(s))
		encodesNone(t, "no class, nothing else", of(1, s, "", 0, "", "a@b"))
	}
}

func TestEncodeClassOfEachByte(t *testing.T) {
	for c := range 256 {
		b := string([]byte{byte(c)})
		for _, s := range []string{b, b + "a", "z" + b, "a" + b + "z", b + b, b + strings.Repeat("m", 19), strings.Repeat("m", 19) + b, strings.Repeat("m", 10) + b + strings.Repeat("m", 9)} {
			if strings.Contains(small, b) {
				encodes(t, "a byte", withClass(s))
			} else {
				encodesNone(t, "a byte", withClass(s))
			}
		}
		encodesNone(t, "a byte, too long", withClass(b+strings.Repeat("m", 20)))
	}
}

// Check and Encode are one about the envelope and the body; a number and a class that may not be are refused beside each.
func TestEncodeOfMoreThanOneFault(t *testing.T) {
	long := strings.Repeat("x", 500_001)
	for _, id := range []int64{0, 7, api.MaxID + 1} {
		for _, class := range []string{"", "a", "A"} {
			for _, m := range []api.Message{of(id, class, "a@b", 0, "x", "c@d"), of(id, class, "a", 0, "x", "c@d"), of(id, class, "a@b", 0, "x"), of(id, class, "a@b", -1, "x", "c@d"), of(id, class, "a@b", 0, long, "c@d")} {
				if id == 7 && class == "a" && entry.Check(m.Env, m.Body) == api.OK {
					encodes(t, "no fault", m)
				} else {
					encodesNone(t, "faults", m)
				}
			}
		}
	}
}
