package entry_test

import (
	"math"
	"slices"
	"strconv"
	"strings"
	"testing"

	"scriptorium/api"
	"scriptorium/entry"
)

// Which of a message's parts is what.
const (
	theID = iota
	theClass
	theFrom
	theAt
	theCount
	theFirst
	theSecond
	theBody
)

// other is the ordinary message's parts with another one at that place.
func other(at int, part string) []string {
	l := texts(ordinary())
	l[at] = part
	return l
}

// P15.4

func TestDecodeOrdinary(t *testing.T) {
	decodes(t, "ordinary", "1:7,5:legal,9:a.b@x.org,10:1234567890,1:2,3:c@d,9:e.f@g.org,18:Subject: x\r\n\r\nHi\r\n,", ordinary())
	decodes(t, "the least", "1:1,1:a,0:,1:0,1:1,3:a@b,0:,", of(1, "a", "", 0, "", "a@b"))
	decodes(t, "the greatest number and time", "13:1099511627776,1:z,0:,19:9223372036854775807,1:1,3:a@b,1:x,", of(api.MaxID, "z", "", math.MaxInt64, "x", "a@b"))
	decodes(t, "the same again", "1:1,1:a,3:a@b,1:0,1:3,3:a@b,3:c@d,3:a@b,1:x,", of(1, "a", "a@b", 0, "x", "a@b", "c@d", "a@b"))
	for n := 1; n <= 100; n++ {
		encodes(t, "to many", of(int64(n), "a", "a@b", 0, "x", many(n)...))
	}
}

func TestDecodeNothing(t *testing.T) {
	decodesNone(t, "nothing", "")
	for _, s := range append([]string{"x", "0", "0:,", "1:7,", "1:7,1:a,", "0:,0:,0:,0:,0:,0:,0:,", "Subject: x\r\n\r\nHi\r\n", "From a@b 5\n\n"}, odd...) {
		decodesNone(t, "no message", s)
		decodesNone(t, "no message, as a part", put(s))
	}
	for n := range 20 {
		decodesNone(t, "parts of nothing", strings.Repeat("0:,", n))
		decodesNone(t, "parts of a digit", strings.Repeat("1:1,", n))
		decodesNone(t, "parts of a letter", strings.Repeat("1:a,", n))
		decodesNone(t, "parts of a mailbox", strings.Repeat("3:a@b,", n))
	}
}

func TestDecodeCutOffAtEachPlace(t *testing.T) {
	for _, m := range []api.Message{ordinary(), of(1, "a", "", 0, "", "a@b"), of(1, "a", "", 0, put(texts(ordinary())...), "a@b")} {
		s := put(texts(m)...)
		for n := range len(s) {
			decodesNone(t, "cut off", s[:n])
			decodesNone(t, "cut off, a comma behind", s[:n]+",x")
			if n > 0 {
				decodesNone(t, "its beginning is cut off", s[n:])
				decodesNone(t, "its beginning again", s+s[:n])
				decodesNone(t, "its end again", s+s[n:])
				decodesNone(t, "its beginning ahead", s[:n]+s)
			}
		}
		decodesNone(t, "twice", s+s)
		decodes(t, "whole", s, m)
	}
}

func TestDecodeAByteLessOrMore(t *testing.T) {
	s := put(texts(ordinary())...)
	for at := range len(s) + 1 {
		if at < len(s) {
			decodesNone(t, "one less at "+strconv.Itoa(at), s[:at]+s[at+1:])
		}
		for c := range 256 {
			decodesNone(t, "one more at "+strconv.Itoa(at), s[:at]+string([]byte{byte(c)})+s[at:])
		}
	}
}

// Where another byte stands in a part, it is another message's part, or none; between parts there may be no other one.
func TestDecodeAnotherByte(t *testing.T) {
	l := texts(ordinary())
	front := ""
	for i, part := range l {
		own := put(part)
		rest := put(l[i+1:]...)
		for at := range len(own) {
			within := at - (len(own) - len(part) - 1)
			for c := range 256 {
				changed := own[:at] + string([]byte{byte(c)}) + own[at+1:]
				switch {
				case changed == own:
					decodes(t, "no change", front+changed+rest, ordinary())
				case within < 0 || within == len(part):
					decodesNone(t, "another byte between parts", front+changed+rest)
				default:
					holdsMessage(t, front+changed+rest)
				}
			}
		}
		front += own
	}
	for at, want := range map[int]api.Message{theID: withID(8), theClass: withClass("legbl"), theFrom: of(7, "legal", "a.b@x.orh", 1234567890, l[theBody], "c@d", "e.f@g.org"), theSecond: of(7, "legal", "a.b@x.org", 1234567890, l[theBody], "c@d", "e.f@g.orh"), theBody: of(7, "legal", "a.b@x.org", 1234567890, "Subject: y\r\n\r\nHi\r\n", "c@d", "e.f@g.org")} {
		decodes(t, "another byte in a part", put(other(at, texts(want)[at])...), want)
	}
}

func TestDecodePartsInAnotherOrder(t *testing.T) {
	l := texts(ordinary())
	for i := range l {
		for j := range i {
			swapped := slices.Clone(l)
			swapped[i], swapped[j] = swapped[j], swapped[i]
			s := put(swapped...)
			switch [2]int{j, i} {
			case [2]int{theID, theAt}:
				decodes(t, "number and time", s, of(1234567890, "legal", "a.b@x.org", 7, l[theBody], "c@d", "e.f@g.org"))
			case [2]int{theFrom, theFirst}:
				decodes(t, "who sent it and who has it", s, of(7, "legal", "c@d", 1234567890, l[theBody], "a.b@x.org", "e.f@g.org"))
			case [2]int{theFrom, theSecond}:
				decodes(t, "who sent it and who has it", s, of(7, "legal", "e.f@g.org", 1234567890, l[theBody], "c@d", "a.b@x.org"))
			case [2]int{theFirst, theSecond}:
				decodes(t, "who has it", s, of(7, "legal", "a.b@x.org", 1234567890, l[theBody], "e.f@g.org", "c@d"))
			default:
				decodesNone(t, "parts "+strconv.Itoa(j)+" and "+strconv.Itoa(i), s)
			}
			moved := slices.Insert(slices.Delete(slices.Clone(l), i, i+1), j, l[i])
			holdsMessage(t, put(moved...))
		}
	}
	slices.Reverse(l)
	decodesNone(t, "the other way round", put(l...))
}

func TestDecodeNumbersThatAreWrittenOtherwise(t *testing.T) {
	for _, digits := range []string{
		"", "01", "00", "07", "007", "+7", "+1", "+0", "-0", "-1", "-7", " 7", "7 ", "7\n", "\n7", "\t7", "7\x00", "\x007", "7.", "7.0", ".7", "7e0", "0x7", "0X7", "0b1", "0o7", "0_7", "7_0", "_7", "7,", ",7", "7:", "7a", "a7", "a", "seven", "NaN", "\u0667", "\uff17", "\xff", "--7", "+-7", "+", "-",
		strings.Repeat("0", 30) + "7", strings.Repeat("0", 1000) + "7", "9223372036854775808", "9223372036854775815", "18446744073709551616", "18446744073709551618", "18446744073709551623", "36893488147419103239", "-9223372036854775808", "-9223372036854775809", "-18446744073709551609", "340282366920938463463374607431768211463", "1" + strings.Repeat("0", 100), strings.Repeat("7", 1000),
	} {
		decodesNone(t, "the number", put(other(theID, digits)...))
		decodesNone(t, "the time", put(other(theAt, digits)...))
		decodesNone(t, "how many", put(other(theCount, digits)...))
	}
	l := texts(ordinary())
	for _, at := range []int{theID, theAt, theCount} {
		for _, ahead := range []string{"0", "00", "+", "-", " ", "0000000000000000000000"} {
			decodesNone(t, "something ahead", put(other(at, ahead+l[at])...))
		}
		for c := range 256 {
			b := string([]byte{byte(c)})
			if b < "0" || b > "9" {
				decodesNone(t, "another byte", put(other(at, b)...))
				decodesNone(t, "another byte ahead", put(other(at, b+l[at])...))
				decodesNone(t, "another byte behind", put(other(at, l[at]+b)...))
			}
		}
	}
	for at := range l {
		s := put(l[:at]...)
		decodesNone(t, "a length with a nought ahead", s+"0"+put(l[at:]...))
		decodesNone(t, "a length with a sign ahead", s+"+"+put(l[at:]...))
		decodesNone(t, "a length with a blank ahead", s+" "+put(l[at:]...))
	}
}

// What may not be is refused wherever it stands, as Encode refuses it.
func TestDecodePartsThatMayNotBe(t *testing.T) {
	for _, s := range []string{"0", "1099511627777", "1099511627778", "2199023255552", "9223372036854775807"} {
		decodesNone(t, "no number", put(other(theID, s)...))
	}
	decodes(t, "a number", put(other(theID, "1099511627776")...), withID(api.MaxID))
	for _, s := range []string{"", "A", "Legal", "legal1", "le gal", "le-gal", "légal", small[:21], strings.Repeat("a", 1<<20)} {
		decodesNone(t, "no class", put(other(theClass, s)...))
	}
	for _, s := range nobodys {
		decodesNone(t, "no sender", put(other(theFrom, s)...))
		decodesNone(t, "no recipient", put(other(theFirst, s)...))
		decodesNone(t, "no recipient", put(other(theSecond, s)...))
	}
	decodesNone(t, "nobody as a recipient", put(other(theFirst, "")...))
	decodesNone(t, "nobody as a recipient", put(other(theSecond, "")...))
	for _, n := range []int{500_001, 1_000_000, 1_000_001} {
		decodesNone(t, "a long body", put(other(theBody, strings.Repeat("x", n))...))
	}
	for at := range texts(ordinary()) {
		decodesNone(t, "a part above the bound", put(other(at, strings.Repeat("7", 1_000_001))...))
		decodesNone(t, "a part at the bound", put(other(at, strings.Repeat("7", 1_000_000))...))
	}
}

// counted is a message's parts with another count of its recipients.
func counted(count string, to ...string) string {
	l := texts(of(7, "legal", "a@b", 5, "x@y", to...))
	l[theCount] = count
	return put(l...)
}

func TestDecodeCounts(t *testing.T) {
	for n := 1; n <= 100; n++ {
		for _, off := range []int{-100, -10, -2, -1, 0, 1, 2, 10, 100} {
			if s := counted(strconv.Itoa(n+off), many(n)...); off == 0 {
				decodes(t, "as many as there are", s, of(7, "legal", "a@b", 5, "x@y", many(n)...))
			} else {
				decodesNone(t, "more or less than there are", s)
			}
		}
	}
	for _, n := range []int{0, 101, 102, 1000, 100_000} {
		decodesNone(t, "none, or too many", counted(strconv.Itoa(n), many(n)...))
		decodesNone(t, "none, or too many, 100 told", counted("100", many(n)...))
		decodesNone(t, "none, or too many, one told", counted("1", many(n)...))
	}
	for _, s := range []string{"0", "-1", "-2", "-9223372036854775808", "3", "100", "101", "256", "258", "65538", "2147483647", "2147483650", "4294967298", "9223372036854775807"} {
		decodesNone(t, "not two", counted(s, "c@d", "e@f"))
		decodesNone(t, "none", counted(s))
		decodesNone(t, "none, and nothing behind", put("7", "legal", "a@b", "5", s))
	}
	decodes(t, "the body looks like a recipient", counted("2", "c@d", "e@f"), of(7, "legal", "a@b", 5, "x@y", "c@d", "e@f"))
}

func TestDecodeAPartMoreOrLess(t *testing.T) {
	l := texts(ordinary())
	for at := range len(l) + 1 {
		if at < len(l) {
			decodesNone(t, "without part "+strconv.Itoa(at), put(slices.Delete(slices.Clone(l), at, at+1)...))
			decodesNone(t, "up to part "+strconv.Itoa(at), put(l[:at]...))
		}
		for _, more := range append(slices.Clone(l), "", "0", "1", "3", "a", "x@y", "legal", ",", "1:a,") {
			decodesNone(t, "one more at "+strconv.Itoa(at), put(slices.Insert(slices.Clone(l), at, more)...))
		}
	}
	decodesNone(t, "all in one part", put(put(l...)))
	for _, more := range []string{"x", ",", "0", ":", "\x00", "\r\n", "0:,", "1:a,", put(l...), strings.Repeat("x", 1_000_000)} {
		decodesNone(t, "something behind", put(l...)+more)
		decodesNone(t, "something ahead", more+put(l...))
	}
}

func TestDecodeLongBytes(t *testing.T) {
	const n = 1 << 20
	for _, s := range []string{"x", "0", "1", ":", ",", "0:,", "1:1,", "1:7,1:a,0:,1:5,", "3:a@b,", "\x00", put(texts(ordinary())...)} {
		decodesNone(t, "again and again", strings.Repeat(s, n/len(s)))
		decodesNone(t, "again and again behind a message's beginning", "1:7,1:a,0:,1:5,"+strings.Repeat(s, n/len(s)))
		decodesNone(t, "again and again behind a count", "1:7,1:a,0:,1:5,19:9223372036854775807,"+strings.Repeat(s, n/len(s)))
	}
	for _, n := range []int{499_999, 500_000} {
		body := strings.Repeat("x", n)
		decodes(t, "a long body", put("7", "a", "", "5", "1", "c@d", body), of(7, "a", "", 5, body, "c@d"))
		decodesNone(t, "a long body, one byte less", put("7", "a", "", "5", "1", "c@d", body)[1:])
	}
}

// P15.5

// comesBack fails the test unless Decode of Encode is m.
func comesBack(t *testing.T, m api.Message) {
	t.Helper()
	b, err := entry.Encode(m)
	if err != api.OK {
		t.Errorf("Encode of %s: got %d", told(m), err)
	}
	if n, err := entry.Decode(b); err != api.OK || !alike(m, n) {
		t.Errorf("Decode of Encode of %s: got %s, %d", told(m), told(n), err)
	}
}

// partsComeBack fails the test unless Take of Put answers each of those, one behind the other, and at last rest.
func partsComeBack(t *testing.T, rest string, l ...string) {
	t.Helper()
	b := append(entry.Put(asBytes(l)...), rest...)
	for i, s := range l {
		part, behind, ok := entry.Take(b)
		if !ok || string(part) != s {
			t.Errorf("part %d of %d: got %s, %v, want %s", i, len(l), short(string(part)), ok, short(s))
		}
		b = behind
	}
	if string(b) != rest {
		t.Errorf("behind %d parts: got %s, want %s", len(l), short(string(b)), short(rest))
	}
}

func TestPartsComeBack(t *testing.T) {
	for _, s := range odd {
		for _, rest := range odd {
			partsComeBack(t, rest, s)
			partsComeBack(t, rest, s, rest, "", s)
			partsComeBack(t, rest+rest, put(s, rest), put(put(s)))
		}
	}
	for _, n := range []int{0, 9, 10, 99, 100, 999_999, 1_000_000} {
		for _, s := range []string{"x", ",", ":", "0:,"} {
			long := strings.Repeat(s, n+1)[:n]
			for _, rest := range []string{"", "x", ",", "0:,", "0", ":"} {
				partsComeBack(t, rest, long)
				partsComeBack(t, rest, "a", long, "")
			}
		}
	}
	partsComeBack(t, "x", slices.Repeat(odd, 20)...)
	partsComeBack(t, "")
}

func TestMessagesComeBack(t *testing.T) {
	for _, s := range odd {
		for _, from := range append(somebodys, "") {
			comesBack(t, of(7, "a", from, 5, s, "c@d"))
			comesBack(t, of(api.MaxID, small[:20], from, math.MaxInt64, s+s, somebodys...))
		}
	}
	for c := range 256 {
		comesBack(t, of(int64(c+1), "a", "", int64(c), string([]byte{byte(c)}), "c@d"))
	}
	m := ordinary()
	for range 12 {
		comesBack(t, m)
		m = of(m.ID+1, "a", "a@b", 5, put(texts(m)...), "c@d")
	}
}
