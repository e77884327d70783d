package query_test

import (
	"math"
	"slices"
	"strconv"
	"strings"
	"testing"

	"scriptorium/api"
	"scriptorium/query"
)

// The greatest number of the type.
const greatest = math.MaxInt64

// Questions of each kind, by hand.

func term(s string) api.Query      { return api.Query{Op: api.QTerm, Text: s} }
func from(s string) api.Query      { return api.Query{Op: api.QFrom, Text: s} }
func to(s string) api.Query        { return api.Query{Op: api.QTo, Text: s} }
func before(n int64) api.Query     { return api.Query{Op: api.QBefore, N: n} }
func after(n int64) api.Query      { return api.Query{Op: api.QAfter, N: n} }
func and(l ...api.Query) api.Query { return api.Query{Op: api.QAnd, Kids: l} }
func or(l ...api.Query) api.Query  { return api.Query{Op: api.QOr, Kids: l} }
func not(l ...api.Query) api.Query { return api.Query{Op: api.QNot, Kids: l} }

// Words that stand in many tests.
var a, b, c, d = term("a"), term("b"), term("c"), term("d")

// nots is q within n of them.
func nots(n int, q api.Query) api.Query {
	for range n {
		q = not(q)
	}
	return q
}

// alike is whether p and q are the same in all fields, however deep.
func alike(p, q api.Query) bool {
	if p.Op != q.Op || p.Text != q.Text || p.N != q.N || len(p.Kids) != len(q.Kids) {
		return false
	}
	for i := range p.Kids {
		if !alike(p.Kids[i], q.Kids[i]) {
			return false
		}
	}
	return true
}

// short is s as a test tells it.
func short(s string) string {
	if len(s) > 120 {
		return strconv.Quote(s[:80]) + " .. " + strconv.Quote(s[len(s)-20:]) + " (" + strconv.Itoa(len(s)) + " bytes)"
	}
	return strconv.Quote(s)
}

// told is q as a test tells it: not all of what is deep, or long.
func told(q api.Query) string {
	var s strings.Builder
	var tell func(api.Query, int)
	tell = func(q api.Query, deep int) {
		s.WriteString("{" + strconv.Itoa(q.Op) + " " + short(q.Text) + " " + strconv.FormatInt(q.N, 10))
		for i, k := range q.Kids {
			if deep == 6 || i == 6 || s.Len() > 600 {
				s.WriteString(" ..")
				break
			}
			tell(k, deep+1)
		}
		s.WriteString("}")
	}
	tell(q, 0)
	return s.String()
}

// parses fails the test unless Parse answers that of s.
func parses(t *testing.T, what, s string, want api.Query) {
	t.Helper()
	got, at, err := query.Parse(s)
	if err != api.OK || at != 0 || !alike(got, want) {
		t.Errorf("%s: Parse(%s): got %s, %d, %d; want %s", what, short(s), told(got), at, err, told(want))
	}
}

// refuses fails the test unless Parse answers that error of s, and that place.
func refuses(t *testing.T, what, s string, at int, err api.Errno) {
	t.Helper()
	q, gotAt, gotErr := query.Parse(s)
	if gotErr != err || gotAt != at || !alike(q, api.Query{}) {
		t.Errorf("%s: Parse(%s): got %s, %d, %d; want %d, %d", what, short(s), told(q), gotAt, gotErr, at, err)
	}
}

// unfit fails the test unless Parse finds at that place what fits no continuation.
func unfit(t *testing.T, what, s string, at int) {
	t.Helper()
	refuses(t, what, s, at, api.ErrQuery)
}

// tooOpen fails the test unless Parse finds at that place the bracket or `not` that is too many.
func tooOpen(t *testing.T, what, s string, at int) {
	t.Helper()
	refuses(t, what, s, at, api.ErrLong)
}

// P19.1

func TestExample(t *testing.T) {
	parses(t, "the chapter's example", "a b or not c", or(and(a, b), not(c)))
}

func TestNoToken(t *testing.T) {
	unfit(t, "no byte", "", 0)
	for _, s := range []string{" ", "\t", "\r", "\n", "\r\n", "   ", " \t\r\n \t\r\n", strings.Repeat(" ", 999), strings.Repeat("\n", 1000)} {
		unfit(t, "blanks alone", s, len(s))
	}
}

// manyWords is a text of n bytes that asks for words of one letter, the last one of two if n is even, and what it asks.
func manyWords(n int) (string, api.Query) {
	s := strings.Repeat("a ", (n-1)/2) + "bc"[n%2:]
	var kids []api.Query
	for _, w := range strings.Fields(s) {
		kids = append(kids, term(w))
	}
	return s, and(kids...)
}

func TestLength(t *testing.T) {
	for _, n := range []int{997, 998, 999, 1000} {
		s, q := manyWords(n)
		parses(t, "words", s, q)
		parses(t, "blanks behind", "a"+strings.Repeat(" ", n-1), a)
		parses(t, "blanks ahead", strings.Repeat("\t", n-1)+"a", a)
		parses(t, "noughts ahead", "after:"+strings.Repeat("0", n-7)+"5", after(5))
		unfit(t, "one long token", strings.Repeat("a", n), 0)
		unfit(t, "a bracket as its last byte", s[:n-1]+"(", n)
		unfit(t, "a bracket's end as its last byte", s[:n-1]+")", n-1)
		unfit(t, "another one as its last byte", strings.Repeat(" ", n-1)+"!", n-1)
	}
	for _, n := range []int{1001, 1002, 1003, 2000, 1 << 16, 1 << 20} {
		s, _ := manyWords(n)
		for _, text := range []string{s, strings.Repeat(" ", n), strings.Repeat("(", n), strings.Repeat("a", n), "!" + s[1:], ")" + s[1:], strings.Repeat("not ", n)[:n], "a" + strings.Repeat("\n", n-1), strings.Repeat("\xff", n)} {
			refuses(t, "too long", text, 0, api.ErrLong)
		}
	}
}

// What words have.
const inWords = "abcdefghijklmnopqrstuvwxyz0123456789"

// strange are texts that another rule of letters, digits and blanks would take for some.
var strange = []string{"é", "É", "ß", "д", "\u212a", "\u017f", "\u0130", "\uff41", "\uff11", "\u0663", "\u00b2", "\u00a0", "\u2003", "\u3000", "\u0085", "\u2028", "\ufeff", "\u0301", "\ufffd", "\xff", "\xc3", "\x80", "\xa0", "\x85", "\xc1\xa1", "\x00", "\v", "\f", "\b", "\x1c", "\x7f"}

func TestWords(t *testing.T) {
	for _, s := range append(strings.Split(inWords, ""), "word", "a1", "1a", "007", "x86", inWords[:31], inWords[:32], strings.Repeat("z", 32), strings.Repeat("0", 32)) {
		parses(t, "alone", s, term(s))
		parses(t, "twice", s+" "+s, and(term(s), term(s)))
		parses(t, "in the middle", "a or not "+s+" b", or(a, and(not(term(s)), b)))
	}
	for _, s := range append([]string{"A", "Word", "woRd", "worD", inWords[:33], inWords, strings.Repeat("z", 33), strings.Repeat("q", 900), "a-b", "a.b", "a_b", "a'b", `"a"`, "a*", "?", "-a", "+a", "!", "&&", "|", "||", "[a]", "a,b", "a;", "a@b", "<a@b>", "\\(", "'", "/", "~a"}, strange...) {
		unfit(t, "alone", s, 0)
		unfit(t, "behind a word", "a "+s, 2)
		unfit(t, "behind an or", "a or\t"+s+" b", 5)
		unfit(t, "behind a not", "not  "+s, 5)
		unfit(t, "in brackets", "( "+s+")", 2)
	}
}

// Words that begin with what isn't one, or end so, or are what stands ahead of a colon.
func TestWordsThatAreNearlyNone(t *testing.T) {
	for _, s := range []string{"android", "andy", "and1", "band", "1and", "andand", "order", "orb", "or0", "nor", "door", "oror", "nothing", "notes", "not1", "knot", "notnot", "andor", "ornot", "from", "to", "before", "after", "fromage", "tom", "beforehand", "afterwards", "an", "o", "no", "nand", "xor"} {
		parses(t, "alone", s, term(s))
		parses(t, "behind a word", "a "+s, and(a, term(s)))
		parses(t, "behind and", "a and "+s, and(a, term(s)))
		parses(t, "behind or", "a or "+s, or(a, term(s)))
		parses(t, "behind not", "not "+s, not(term(s)))
		parses(t, "in brackets", "("+s+")", term(s))
	}
	for _, s := range []string{"And", "AND", "anD", "Or", "OR", "oR", "Not", "NOT", "noT", "and:", "or:", "not:", "and.", "\"or\"", "not!", "a:b", ":", ":a", "a:", "::", "FROM:a@b", "From:a@b", "TO:a@b", "Before:1", "After:1", "AFTER:1", "subject:a", "date:1", "since:1", "form:a@b", "ffrom:a@b", "xto:a@b", "from;a@b", "from=a@b", "-from:a@b"} {
		unfit(t, "alone", s, 0)
		unfit(t, "behind a word", "b "+s, 2)
	}
}

func TestAndOrNotAreNoWords(t *testing.T) {
	for _, s := range []string{"and", "or"} {
		unfit(t, "alone", s, 0)
		unfit(t, "nothing ahead", s+" a", 0)
		unfit(t, "blanks ahead", " \t"+s+" a", 2)
		unfit(t, "nothing behind", "a "+s, 2+len(s))
		unfit(t, "blanks behind", "a "+s+" \r\n", 5+len(s))
		unfit(t, "behind a bracket", "("+s+" a)", 1)
		unfit(t, "ahead of a bracket's end", "(a "+s+")", 3+len(s))
		unfit(t, "behind not", "not "+s+" a", 4)
		for _, other := range []string{"and", "or"} {
			unfit(t, "two", "a "+s+" "+other+" b", 3+len(s))
			unfit(t, "two, and nothing behind", "a "+s+" "+other, 3+len(s))
			unfit(t, "two, with a not between", "a "+s+" not "+other+" b", 7+len(s))
			unfit(t, "two, nothing ahead", s+" "+other, 0)
		}
	}
	unfit(t, "not alone", "not", 3)
	unfit(t, "not, and blanks", "not \t ", 6)
	unfit(t, "not twice", "not not", 7)
	unfit(t, "not behind a word", "a not", 5)
	unfit(t, "not behind and", "a and not", 9)
	unfit(t, "not behind or", "a or not", 8)
	unfit(t, "not, and the bracket's end", "(not)", 4)
	unfit(t, "not, and the bracket's end, behind a word", "(a not)", 6)
	unfit(t, "the chapter asks no word", "a or and", 5)
	unfit(t, "not ahead of what is no question", "not from:x", 4)
}

func TestNot(t *testing.T) {
	parses(t, "of a word", "not a", not(a))
	parses(t, "of a not", "not not a", not(not(a)))
	parses(t, "of three", "not not not a", nots(3, a))
	parses(t, "of a word in brackets", "not (a)", not(a))
	parses(t, "of brackets", "not (a b)", not(and(a, b)))
	parses(t, "of brackets with or", "not (a or b)", not(or(a, b)))
	parses(t, "of a not of brackets", "not not (a b)", not(not(and(a, b))))
	parses(t, "of a not in brackets", "not (not a)", not(not(a)))
	parses(t, "in brackets", "(not a)", not(a))
	parses(t, "of the next one alone", "not a b", and(not(a), b))
	parses(t, "of the next one alone, with and", "not a and b", and(not(a), b))
	parses(t, "of the next one alone, with or", "not a or b", or(not(a), b))
	parses(t, "behind a word", "a not b", and(a, not(b)))
	parses(t, "behind and", "a and not b", and(a, not(b)))
	parses(t, "behind or", "a or not b", or(a, not(b)))
	parses(t, "two", "not a not b", and(not(a), not(b)))
	parses(t, "brackets, and what is behind them", "not (a b) c", and(not(and(a, b)), c))
	parses(t, "of an address", "not from:", not(from("")))
	parses(t, "of a number", "not before:5", not(before(5)))
	parses(t, "at a bracket", "not(a b)", not(and(a, b)))
	parses(t, "at a bracket's end", "(a)not b", and(a, not(b)))
}

func TestAndOr(t *testing.T) {
	parses(t, "and", "a and b", and(a, b))
	parses(t, "without and", "a b", and(a, b))
	parses(t, "three", "a b c", and(a, b, c))
	parses(t, "three, one and", "a b and c", and(a, b, c))
	parses(t, "three, the other and", "a and b c", and(a, b, c))
	parses(t, "three, two ands", "a and b and c", and(a, b, c))
	parses(t, "or", "a or b", or(a, b))
	parses(t, "three with or", "a or b or c", or(a, b, c))
	parses(t, "and ahead of or", "a b or c", or(and(a, b), c))
	parses(t, "or ahead of and", "a or b c", or(a, and(b, c)))
	parses(t, "and, or, and", "a b or c and d", or(and(a, b), and(c, d)))
	parses(t, "or, and, or", "a or b c or d", or(a, and(b, c), d))
	parses(t, "the same ones", "a a or a", or(and(a, a), a))
}

func TestBrackets(t *testing.T) {
	parses(t, "of a word", "(a)", a)
	parses(t, "two", "((a))", a)
	parses(t, "an and in an and", "(a b) c", and(and(a, b), c))
	parses(t, "an and in an and, at the end", "a (b c)", and(a, and(b, c)))
	parses(t, "an and in an and, in the middle", "a (b c) d", and(a, and(b, c), d))
	parses(t, "an and in an and, with and", "a and (b and c)", and(a, and(b, c)))
	parses(t, "two ands in an and", "(a b) (c d)", and(and(a, b), and(c, d)))
	parses(t, "an or of an or", "(a or b) or c", or(or(a, b), c))
	parses(t, "an or of an or, at the end", "a or (b or c)", or(a, or(b, c)))
	parses(t, "an or in an and", "(a or b) c", and(or(a, b), c))
	parses(t, "an or in an and, at the end", "a (b or c)", and(a, or(b, c)))
	parses(t, "an and in an or", "(a b) or c", or(and(a, b), c))
	parses(t, "an and in an or, at the end", "a or (b c)", or(a, and(b, c)))
	parses(t, "around all", "(a b or c)", or(and(a, b), c))
	parses(t, "around each", "(a) (b) or (c)", or(and(a, b), c))
	parses(t, "around all, and once more", "((a b) or (c))", or(and(a, b), c))
	parses(t, "three deep", "(((a b) c) d)", and(and(and(a, b), c), d))
	parses(t, "of other kinds", "(from:a@b) (before:1)", and(from("a@b"), before(1)))
}

func TestBracketsThatDontFit(t *testing.T) {
	for s, at := range map[string]int{
		"()": 1, "( )": 2, "(()": 2, "(())": 2, "a ()": 3, "() a": 1, "not ()": 5, "a or ()": 6, "(a ())": 4,
		"(": 1, "( ": 2, "((": 2, "(a": 2, "(a ": 3, "((a)": 4, "(a b": 4, "(a or": 5, "(a or b": 7, "(not": 4, "(not a": 6, "a (": 3, "a (b": 4, "not (a": 6, "(a) (b": 6, "(a)(": 4,
		")": 0, " )": 1, "a)": 1, "a )": 2, "(a))": 3, "a) b": 1, ")a": 0, ")(": 0, "a)(b": 1, "not )": 4, "a or )": 5, "a and)": 5, "(a) )": 4, "a b)": 3, "a or b)": 6, "(a or )": 6, "(and)": 1, "(or)": 1,
		"[a]": 0, "{a}": 0, "a [b]": 2,
	} {
		unfit(t, "empty, never closed, never opened", s, at)
	}
}

// A bracket ends a run as a blank does.
func TestBracketsRightAtTokens(t *testing.T) {
	parses(t, "behind a word", "a(b)", and(a, b))
	parses(t, "ahead of a word", "(a)b", and(a, b))
	parses(t, "at either end", "a(b)c", and(a, b, c))
	parses(t, "at a bracket", "(a)(b)", and(a, b))
	parses(t, "at or", "(a)or(b)", or(a, b))
	parses(t, "at and", "(a)and(b)", and(a, b))
	parses(t, "at not", "(a)not(b)", and(a, not(b)))
	parses(t, "at two", "not(a)or(not(b))", or(not(a), not(b)))
	parses(t, "behind addresses", "from:a@b(to:c@d)", and(from("a@b"), to("c@d")))
	parses(t, "behind addresses of nobody", "from:(to:)from:", and(from(""), to(""), from("")))
	parses(t, "behind numbers", "before:1(after:2)before:3", and(before(1), after(2), before(3)))
	parses(t, "what isn't and, or, not", "(a)ors(b)andy(c)nots", and(a, term("ors"), b, term("andy"), c, term("nots")))
	unfit(t, "behind a colon", "x:(a)", 0)
	unfit(t, "instead of a number", "before:(1)", 0)
	unfit(t, "within a number", "a(b)before:", 4)
}

// The bytes between tokens: those that are blanks, and no other one.
func TestBlanks(t *testing.T) {
	for _, s := range []string{" ", "\t", "\r", "\n", "\r\n", "  ", "\t \n\r", strings.Repeat(" \t\r\n", 20)} {
		parses(t, "between", "a"+s+"b", and(a, b))
		parses(t, "ahead and behind", s+"a"+s, a)
		parses(t, "everywhere", s+"not"+s+"("+s+"a"+s+"or"+s+"b"+s+")"+s+"and"+s+"from:"+s, and(not(or(a, b)), from("")))
		unfit(t, "ahead of the place", s+"a"+s+")", 2*len(s)+1)
		unfit(t, "behind the place", s+"a"+s+"!"+s+"b"+s, 2*len(s)+1)
		unfit(t, "ahead of the end", "(a"+s, 2+len(s))
	}
	for n := range 256 {
		s := string([]byte{byte(n)})
		switch {
		case strings.Contains(" \t\r\n", s):
			parses(t, "each byte", "a"+s+"b", and(a, b))
			unfit(t, "each byte, alone", s, 1)
		case s == "(":
			unfit(t, "each byte", "a"+s+"b", 3)
			unfit(t, "each byte, alone", s, 1)
		case s == ")":
			unfit(t, "each byte", "a"+s+"b", 1)
			unfit(t, "each byte, alone", s, 0)
		case strings.Contains(inWords, s):
			parses(t, "each byte", "a"+s+"b", term("a"+s+"b"))
			parses(t, "each byte, alone", s, term(s))
		default:
			unfit(t, "each byte", "a"+s+"b", 0)
			unfit(t, "each byte, alone", s, 0)
			unfit(t, "each byte, ahead", s+"a", 0)
			unfit(t, "each byte, behind", "c a"+s, 2)
			unfit(t, "each byte, between", "a "+s+" b", 2)
			unfit(t, "each byte, at a bracket", "(a)"+s+"(b)", 3)
		}
	}
}

func TestAddresses(t *testing.T) {
	domain := strings.Repeat(strings.Repeat("d", 63)+".", 3) + strings.Repeat("e", 63)
	longest := strings.Repeat("L", 64) + "@" + domain
	for addr, text := range map[string]string{
		"": "", "a@b": "a@b", "a.b@x.org": "a.b@x.org", "A@B": "A@b", "Jo.Doe@X.Org": "Jo.Doe@x.org", "a@X-Y.0.Z9": "a@x-y.0.z9", "!#$%&'*+-/=?^_{|}~`@q": "!#$%&'*+-/=?^_{|}~`@q", "1@2": "1@2", "or@and.not": "or@and.not", longest: longest,
	} {
		parses(t, "from", "from:"+addr, from(text))
		parses(t, "to", "to:"+addr, to(text))
		parses(t, "both", "to:"+addr+" or not from:"+addr, or(to(text), not(from(text))))
		parses(t, "in brackets", "a (from:"+addr+") b", and(a, from(text), b))
	}
	for _, addr := range []string{"x", "@", "a@", "@b", "a..b@x", ".a@x", "a@b@c", "a@b_c", "a@-b", "a@b-", "a@b.", "<a@b>", "<>", "a@[1.2.3.4]", `"a"@b`, ":a@b", "from:a@b", "to:", ":", "a@b,c@d", "a:b@c", "L" + longest, "a@d." + domain, "é@b", "a@é", "a\x00@b", "a\v@b"} {
		for _, kind := range []string{"from:", "to:"} {
			unfit(t, "alone", kind+addr, 0)
			unfit(t, "behind a word", "a "+kind+addr, 2)
			unfit(t, "behind another address", kind+" "+kind+addr, len(kind)+1)
			unfit(t, "ahead of a word", "not "+kind+addr+" a", 4)
		}
	}
	// A blank ends the token: what is behind it is another one.
	unfit(t, "behind a blank", "from: a@b", 6)
	parses(t, "a word behind a blank", "from: a", and(from(""), a))
	parses(t, "a word behind a blank", "to:\ta", and(to(""), a))
	unfit(t, "blanks ahead of the colon", "from :a@b", 5)
	unfit(t, "blanks within", "from:a @b", 0)
}

func TestNumbers(t *testing.T) {
	for digits, n := range map[string]int64{
		"0": 0, "1": 1, "7": 7, "10": 10, "00": 0, "007": 7, "08": 8, "4294967296": 1 << 32, "9223372036854775806": greatest - 1, "9223372036854775807": greatest, "09223372036854775807": greatest, strings.Repeat("0", 900): 0, strings.Repeat("0", 900) + "9223372036854775807": greatest,
	} {
		parses(t, "before", "before:"+digits, before(n))
		parses(t, "after", "after:"+digits, after(n))
		parses(t, "both, in the middle", "not\nafter:"+digits+"\na or (a)", or(and(not(after(n)), a), a))
	}
	for _, digits := range []string{"", "-1", "-0", "+1", "+0", "+", "-", "9223372036854775808", "9223372036854775809", "09223372036854775808", "9999999999999999999", "10000000000000000000", "18446744073709551615", "18446744073709551616", "18446744073709551623", strings.Repeat("9", 900), "1.0", "1.", ".1", "1e3", "0x1", "0b1", "0o7", "1_0", "_1", "1_", "1,0", "a", "1a", "a1", "x", "inf", "NaN", "\u0661", "\uff11", "\u00b2", "1\x00", "\x001", "1é", "1:", ":1", "1:2", "'1'", "1-2", "--1", "+-1", "~1"} {
		for _, kind := range []string{"before:", "after:"} {
			unfit(t, "alone", kind+digits, 0)
			unfit(t, "behind a word", "a "+kind+digits, 2)
			unfit(t, "behind a number", kind+"1 "+kind+digits, len(kind)+2)
			unfit(t, "ahead of a word", "("+kind+digits+" a", 1)
		}
	}
	for n := range 256 {
		s := string([]byte{byte(n)})
		if strings.Contains("0123456789", s) {
			parses(t, "each byte", "after:1"+s, after(int64(10+n-'0')))
		} else if !strings.Contains(" \t\r\n()", s) {
			unfit(t, "each byte", "after:"+s, 0)
			unfit(t, "each byte", "after:1"+s, 0)
			unfit(t, "each byte", "after:1"+s+"1", 0)
			unfit(t, "each byte", "after:"+s+"1", 0)
		}
	}
	parses(t, "a word behind a blank", "before:1 2", and(before(1), term("2")))
	unfit(t, "a blank instead", "before: 1", 0)
}

// What each token that begins a question may stand behind: anything.
func TestWhatFitsWhere(t *testing.T) {
	starts := map[string]bool{"": true, "a": false, "a and": true, "a or": true, "not": true, "(": true, "(a": false, "(a or": true, "(a)": false, "not a": false, "not (": true, "a (b": false, "a or b": false, "from:": false, "before:1": false, "((": true, "((a)": false, "a b": false, "not not": true}
	for ahead, wanted := range starts {
		at := len(ahead) + 1
		for _, s := range []string{"and", "or"} {
			if wanted {
				unfit(t, "a question is wanted", ahead+" "+s+" a", at)
			} else if _, place, _ := query.Parse(ahead + " " + s + " !"); place != at+len(s)+1 {
				t.Errorf("%s fits behind %s, but the place is %d", s, ahead, place)
			}
		}
		for _, s := range []string{"a", "from:", "to:a@b", "before:0", "after:1", "(", "not"} {
			if _, place, err := query.Parse(ahead + " " + s + " !"); err != api.ErrQuery || place != at+len(s)+1 {
				t.Errorf("%s fits behind %s, but the place is %d, the error %d", s, ahead, place, err)
			}
		}
		open := strings.Count(ahead, "(") > strings.Count(ahead, ")")
		if _, place, _ := query.Parse(ahead + " ) !"); open && !wanted && place != at+2 || (!open || wanted) && place != at {
			t.Errorf("a bracket's end behind %s: the place is %d", ahead, place)
		}
		for _, s := range []string{"A", "!", "a:b", "from:x", "to:@", "before:", "after:-1", "é"} {
			unfit(t, "it fits nowhere", ahead+" "+s+" a", at)
		}
		if _, place, err := query.Parse(ahead + " "); (wanted || open) != (err == api.ErrQuery) || err == api.ErrQuery && place != at {
			t.Errorf("the end behind %s: the place is %d, the error %d", ahead, place, err)
		}
	}
}

// The first one that doesn't fit counts, whatever is behind it.
func TestTheFirstThatDoesntFit(t *testing.T) {
	unfit(t, "two", "A B", 0)
	unfit(t, "ahead of what is never closed", "(a B", 3)
	unfit(t, "ahead of too many", "and "+strings.Repeat("(", 40), 0)
	unfit(t, "ahead of too many", "a) "+strings.Repeat("not ", 40), 1)
	unfit(t, "the last of those that may be open", strings.Repeat("(", 30)+"!"+strings.Repeat("(", 10), 30)
	tooOpen(t, "behind too many", strings.Repeat("(", 31)+"!", 30)
	tooOpen(t, "behind too many", strings.Repeat("(", 31)+")", 30)
	tooOpen(t, "far behind too many", strings.Repeat("(", 31)+"a"+strings.Repeat(")", 32), 30)
	tooOpen(t, "and never closed", strings.Repeat("(", 35)+"a", 30)
}

func TestOpen(t *testing.T) {
	for n := 1; n <= 30; n++ {
		parses(t, "brackets", strings.Repeat("(", n)+"a"+strings.Repeat(")", n), a)
		parses(t, "nots", strings.Repeat("not ", n)+"a", nots(n, a))
		parses(t, "nots, and then brackets", strings.Repeat("not ", n)+strings.Repeat("(", 30-n)+"a"+strings.Repeat(")", 30-n), nots(n, a))
		parses(t, "brackets, and then nots", strings.Repeat("(", 30-n)+strings.Repeat("not ", n)+"a"+strings.Repeat(")", 30-n), nots(n, a))
		unfit(t, "brackets that are never closed", strings.Repeat("(", n), n)
		unfit(t, "nots of nothing", strings.Repeat("not ", n), 4*n)
	}
	for n := 31; n <= 200; n += 13 {
		tooOpen(t, "brackets", strings.Repeat("(", n)+"a"+strings.Repeat(")", n), 30)
		tooOpen(t, "brackets without an end", strings.Repeat("(", n), 30)
		tooOpen(t, "nots", strings.Repeat("not ", n)+"a", 120)
		tooOpen(t, "nots without an end", strings.Repeat("not\n", n), 120)
	}
	for n := range 31 {
		m := 30 - n
		within := strings.Repeat("not ", n) + strings.Repeat("(", m)
		at := 4*n + m
		tooOpen(t, "a bracket within nots and brackets", within+"(a"+strings.Repeat(")", m+1), at)
		tooOpen(t, "a not within nots and brackets", within+"not a"+strings.Repeat(")", m), at)
		if m > 0 {
			tooOpen(t, "a not behind a word there", within+"a not b"+strings.Repeat(")", m), at+2)
		}
	}
}

// What is closed again isn't open any more.
func TestOpenAndClosedAgain(t *testing.T) {
	const n = 90
	words := func(q api.Query) api.Query { return and(slices.Repeat([]api.Query{q}, n)...) }
	parses(t, "brackets, one behind the other", strings.Repeat("(a) ", n), words(a))
	parses(t, "nots, one behind the other", strings.Repeat("not a ", n), words(not(a)))
	parses(t, "both, one behind the other", strings.Repeat("not (a)", n), words(not(a)))
	deep := strings.Repeat("(", 29)
	shut := strings.Repeat(")", 29)
	parses(t, "brackets within 29", deep+strings.Repeat("(a)", n)+shut, words(a))
	parses(t, "nots within 29", deep+strings.Repeat("not a ", n)+shut, words(not(a)))
	parses(t, "the 30th with or", deep+"(a) or (b) or not c"+shut, or(a, b, not(c)))
	tooOpen(t, "a not of brackets within 29", deep+"(a) not (a)"+shut, 29+8)
	tooOpen(t, "a not of a not within 29", deep+"not a not not a"+shut, 29+10)
	parses(t, "30 brackets twice", deep+"(a)"+shut+deep+"(b)"+shut, and(a, b))
	parses(t, "30 nots twice", strings.Repeat("not ", 30)+"a "+strings.Repeat("not ", 30)+"b", and(nots(30, a), nots(30, b)))
	tooOpen(t, "31 behind 30 brackets", deep+"(a)"+shut+deep+"((b))"+shut, 59+2+30)
	tooOpen(t, "31 behind 30 nots", strings.Repeat("not ", 30)+"a "+strings.Repeat("not ", 31)+"b", 122+120)
	tooOpen(t, "31 behind a bracket that is closed", "(a)"+strings.Repeat("(", 31), 3+30)
	tooOpen(t, "31, one in brackets", "("+strings.Repeat("not ", 30)+"a)", 1+116)
	parses(t, "a not around what is closed", "not ((a) (b)) c", and(not(and(a, b)), c))
}
