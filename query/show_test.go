package query_test

import (
	"math"
	"slices"
	"strconv"
	"strings"
	"testing"

	"scriptorium/api"
	"scriptorium/query"
)

// shows fails the test unless Check takes q, Show answers that text of it, and Parse of that is q.
func shows(t *testing.T, what string, q api.Query, want string) {
	t.Helper()
	if !query.Check(q) {
		t.Errorf("%s: Check(%s): got false", what, told(q))
	}
	if got := query.Show(q); got != want {
		t.Errorf("%s: Show(%s): got %s, want %s", what, told(q), short(got), short(want))
	}
	parses(t, what, want, q)
}

// showsNone fails the test unless Check refuses q, Show tells nothing of it, and it holds of no document.
func showsNone(t *testing.T, what string, q api.Query) {
	t.Helper()
	if query.Check(q) {
		t.Errorf("%s: Check(%s): got true", what, told(q))
	}
	if got := query.Show(q); got != "?" {
		t.Errorf("%s: Show(%s): got %s", what, told(q), short(got))
	}
	for _, d := range documents {
		if query.Holds(q, d) {
			t.Errorf("%s: it holds of one: %s", what, told(q))
		}
	}
}

// nowhere fails the test unless Check refuses q, alone and as one of each kind's kids.
func nowhere(t *testing.T, what string, q api.Query) {
	t.Helper()
	for _, x := range []api.Query{q, not(q), not(not(q)), and(a, q), and(q, a), or(a, q), or(q, a), and(or(a, q), b), or(not(and(q, q)), b), and(and(q, a), a)} {
		showsNone(t, what, x)
	}
}

// P19.2, P19.3

func TestShowWords(t *testing.T) {
	for _, s := range append(strings.Split(inWords, ""), "word", "007", "from", "to", "before", "after", "andy", "ore", "nots", inWords[:32]) {
		shows(t, "a word", term(s), s)
	}
	for _, s := range append([]string{"", " ", "and", "or", "not", "A", "Word", "And", " a", "a ", "a\n", "a b", "a and b", "a or b", "not a", "(a)", "(", ")", "a)", "(a", "a) (b", "from:", "from:a@b", "to:", "to:a@b", "before:1", "after:1", "before:", "a:", ":", "?", "a-b", inWords[:33], strings.Repeat("a", 1000), strings.Repeat("a", 1001)}, strange...) {
		nowhere(t, "a text that no word has", term(s))
	}
}

func TestShowAddresses(t *testing.T) {
	for _, s := range []string{"", "a@b", "A@b", "Jo.Doe@x.org", "!#$%&'*+-/=?^_{|}~`@q", "or@and.not", strings.Repeat("L", 64) + "@" + strings.Repeat(strings.Repeat("d", 63)+".", 3) + strings.Repeat("e", 63)} {
		shows(t, "from", from(s), "from:"+s)
		shows(t, "to", to(s), "to:"+s)
		shows(t, "both", and(from(s), not(to(s))), "from:"+s+" not to:"+s)
	}
	for _, s := range append([]string{" ", "a", "@", "a@", "@b", "a@B", "a@b.C", "A@X.Org", " a@b", "a@b ", "a@b c", "a@b) (c", "a@b or c", "<a@b>", "a..b@x", "a@b@c", "from:a@b", "from:", "a@b\n", strings.Repeat("L", 65) + "@b", "a@" + strings.Repeat("d", 64), strings.Repeat("a", 1001)}, strange...) {
		nowhere(t, "a text that no address has", from(s))
		nowhere(t, "a text that no address has", to(s))
	}
}

func TestShowNumbers(t *testing.T) {
	for n, digits := range map[int64]string{0: "0", 1: "1", 7: "7", 10: "10", 1 << 32: "4294967296", greatest - 1: "9223372036854775806", greatest: "9223372036854775807"} {
		shows(t, "before", before(n), "before:"+digits)
		shows(t, "after", after(n), "after:"+digits)
		shows(t, "both", or(before(n), after(n)), "before:"+digits+" or after:"+digits)
	}
	for _, n := range []int64{-1, -2, -10, -1 << 32, math.MinInt64 + 1, math.MinInt64} {
		nowhere(t, "below 0", before(n))
		nowhere(t, "below 0", after(n))
	}
}

// What each kid of each kind looks like.
func TestShowKids(t *testing.T) {
	shows(t, "and", and(a, b), "a b")
	shows(t, "and of three", and(a, b, c), "a b c")
	shows(t, "and of the same", and(a, a), "a a")
	shows(t, "and of an and", and(and(a, b), c), "(a b) c")
	shows(t, "and of an and", and(a, and(b, c)), "a (b c)")
	shows(t, "and of ands", and(and(a, b), and(c, d)), "(a b) (c d)")
	shows(t, "and of an or", and(or(a, b), c), "(a or b) c")
	shows(t, "and of an or", and(a, or(b, c)), "a (b or c)")
	shows(t, "and of nots", and(not(a), not(b)), "not a not b")
	shows(t, "or", or(a, b), "a or b")
	shows(t, "or of three", or(a, b, c), "a or b or c")
	shows(t, "or of an and", or(and(a, b), c), "a b or c")
	shows(t, "or of an and", or(a, and(b, c)), "a or b c")
	shows(t, "or of an or", or(or(a, b), c), "(a or b) or c")
	shows(t, "or of an or", or(a, or(b, c)), "a or (b or c)")
	shows(t, "or of nots", or(not(a), not(b)), "not a or not b")
	shows(t, "not", not(a), "not a")
	shows(t, "not of a not", not(not(a)), "not not a")
	shows(t, "not of an and", not(and(a, b)), "not (a b)")
	shows(t, "not of an or", not(or(a, b)), "not (a or b)")
	shows(t, "not of a not of an and", not(not(and(a, b))), "not not (a b)")
	shows(t, "an address", not(from("")), "not from:")
	shows(t, "all kinds", or(and(a, from("x@y"), not(to(""))), not(or(before(5), and(after(1), b)))), "a from:x@y not to: or not (before:5 or after:1 b)")
	shows(t, "the chapter's example", or(and(a, b), not(c)), "a b or not c")
}

// What Parse answers of texts that Show writes otherwise.
func TestShowOfParse(t *testing.T) {
	for s, want := range map[string]string{
		"(a)": "a", "((a))": "a", " a ": "a", "a and b": "a b", "a\tb\r\nc": "a b c", "a(b)c": "a b c", "(a b)": "a b", "(a b) or c": "a b or c", "(not a) b": "not a b", "not(a)": "not a", "not(a b)": "not (a b)", "not (not a)": "not not a", "(a or b)c": "(a or b) c", "((a b) c) or d": "(a b) c or d", "before:007": "before:7", "after:00": "after:0", "from:A@B.C": "from:A@b.c", "to:X@Y or(to:)": "to:X@y or to:", "a and not b and(c)": "a not b c",
	} {
		q, _, _ := query.Parse(s)
		shows(t, s, q, want)
	}
}

// How many kids a kind has.
func TestNumberOfKids(t *testing.T) {
	for _, kind := range []int{api.QAnd, api.QOr} {
		for _, l := range [][]api.Query{nil, {}, {a}, {and(a, b)}, {or(a, b)}, {not(a)}, {from("")}} {
			nowhere(t, "none, or one", api.Query{Op: kind, Kids: l})
		}
	}
	for _, l := range [][]api.Query{nil, {}, {a, b}, {a, a}, {not(a), b}, {a, b, c}, {and(a, b), c}} {
		nowhere(t, "none, or several", not(l...))
	}
	for _, q := range leaves {
		for _, l := range [][]api.Query{{a}, {q}, {a, b}, {{}}} {
			q.Kids = l
			nowhere(t, "kids of one that has none", q)
		}
	}
}

// One of each kind that has no kids, and one of each kind that has.
var (
	leaves  = []api.Query{a, from(""), from("x@y"), to(""), to("x@y"), before(0), before(7), after(0), after(greatest)}
	parents = []api.Query{and(a, b), or(a, b), not(a), not(and(a, not(b)))}
)

func TestFieldsThatTheKindDoesntUse(t *testing.T) {
	for _, q := range slices.Concat(leaves, parents) {
		if !query.Check(q) {
			t.Errorf("Check(%s): got false", told(q))
		}
		for _, n := range []int64{1, -1, 7, greatest, math.MinInt64} {
			if q.Op != api.QBefore && q.Op != api.QAfter {
				x := q
				x.N = n
				nowhere(t, "a number", x)
			}
		}
		for _, s := range []string{"a", " ", "a@b", "not", "(", "\x00"} {
			if q.Op != api.QTerm && q.Op != api.QFrom && q.Op != api.QTo {
				x := q
				x.Text = s
				nowhere(t, "a text", x)
			}
		}
		// Kids that are none are the same as nil.
		for _, l := range [][]api.Query{nil, {}, make([]api.Query, 0, 5), parents[0].Kids[:0]} {
			if len(q.Kids) == 0 {
				x := q
				x.Kids = l
				shows(t, "no kids", x, query.Show(q))
			}
		}
	}
}

func TestKindsThatThereAreNot(t *testing.T) {
	for _, kind := range []int{0, -1, -8, 9, 10, 100, 256 + api.QTerm, 1<<32 + api.QAnd, math.MaxInt, math.MinInt} {
		nowhere(t, "alone", api.Query{Op: kind})
		for _, q := range slices.Concat(leaves, parents) {
			q.Op = kind
			nowhere(t, "with what another has", q)
		}
	}
}

// One that is another kind by its fields.
func TestKindsThatAreMixedUp(t *testing.T) {
	for _, q := range slices.Concat(leaves, parents) {
		for kind := api.QTerm; kind <= api.QNot; kind++ {
			x := q
			x.Op = kind
			same := kind == q.Op
			text := q.Text == "" && q.N == 0 && len(q.Kids) == 0 || q.Text == "x@y"
			address := text && (kind == api.QFrom || kind == api.QTo)
			numbered := q.Text == "" && len(q.Kids) == 0 && (kind == api.QBefore || kind == api.QAfter)
			paired := len(q.Kids) == 2 && (kind == api.QAnd || kind == api.QOr)
			if want := same || address || numbered || paired; query.Check(x) != want {
				t.Errorf("Check(%s): got %v", told(x), !want)
			}
		}
	}
}

func TestLengthOfTheText(t *testing.T) {
	for _, x := range []struct {
		what, ahead, behind string
		made                func(api.Query) api.Query
	}{
		{"words", "", "", func(q api.Query) api.Query { return q }},
		{"words in brackets", "not (", ")", func(q api.Query) api.Query { return not(q) }},
		{"words behind an address", "to:a@b (", ")", func(q api.Query) api.Query { return and(to("a@b"), q) }},
		{"words ahead of or", "", " or a", func(q api.Query) api.Query { return or(q, a) }},
		{"words ahead of a long number", "", " or after:9223372036854775807", func(q api.Query) api.Query { return or(q, after(greatest)) }},
		{"words ahead of an address", "", " or not from:a@b", func(q api.Query) api.Query { return or(q, not(from("a@b"))) }},
	} {
		for n := 990; n <= 1010; n++ {
			s, q := manyWords(n - len(x.ahead) - len(x.behind))
			s = x.ahead + s + x.behind
			switch {
			case len(s) != n:
				t.Fatalf("the test's own: %d bytes for %d", len(s), n)
			case n <= 1000:
				shows(t, x.what, x.made(q), s)
			default:
				showsNone(t, x.what, x.made(q))
			}
		}
	}
	showsNone(t, "very many words", and(slices.Repeat([]api.Query{a}, 1<<20)...))
	showsNone(t, "a very long word", term(strings.Repeat("a", 1<<24)))
}

// A text may ask what no text of at most 1000 bytes would, were it written as Show does: it has no blanks at its brackets.
func TestTextsThatGrow(t *testing.T) {
	for n, fits := range map[int]bool{1: true, 100: true, 125: true, 126: false, 166: false} {
		s := strings.Repeat("a(b c)", n)
		q := and(slices.Repeat([]api.Query{a, and(b, c)}, n)...)
		parses(t, "it fits", s, q)
		if fits {
			shows(t, "it fits", q, strings.TrimSuffix(strings.Repeat("a (b c) ", n), " "))
		} else {
			showsNone(t, "it fits no more", q)
		}
	}
}

func TestOpenOfTheText(t *testing.T) {
	for n := range 40 {
		ands, ors, mixed, apart := and(a, b), or(a, b), and(a, b), a
		for i := range n {
			ands = and(ands, c)
			ors = or(c, ors)
			if i%2 == 0 {
				mixed = or(mixed, c)
			} else {
				mixed = and(mixed, c)
			}
			apart = not(and(not(apart), b))
		}
		s := strings.Repeat
		if n <= 30 {
			shows(t, "ands", ands, s("(", n)+"a b"+s(") c", n))
			shows(t, "ors", ors, s("c or (", n)+"a or b"+s(")", n))
			shows(t, "nots", nots(n, a), s("not ", n)+"a")
		} else {
			showsNone(t, "ands", ands)
			showsNone(t, "ors", ors)
			showsNone(t, "nots", nots(n, a))
		}
		// An and within an or needs no brackets.
		if got := query.Check(mixed); got != (n/2 <= 30) {
			t.Errorf("%d, or and and in turn: Check: got %v", n, got)
		}
		// Three are open of each: two nots, and a bracket.
		if got := query.Check(apart); got != (3*n <= 30) {
			t.Errorf("%d nots of ands of nots: Check: got %v", n, got)
		}
	}
}

// P19.4

// What documents are, in the tests of Holds: some may not stand in an index, but may be asked.
var documents = []api.Doc{
	{},
	{Terms: []string{"a", "b"}, From: "x@Y", To: []string{"p@q"}, At: 7},
	{Terms: []string{"a"}, To: []string{"P@Q", "r@S.Org"}, At: 8},
	{Terms: []string{"b", "a", "b", "A", "", "?", "not", "a b"}, From: "x", To: []string{"", "x@y", "x@y"}, At: -1},
	{Terms: []string{"c"}, From: "X@y", At: greatest},
	{From: "x@y", To: []string{""}, At: math.MinInt64},
}

// toldDoc is a document as a test tells it: not all of its lists, if they are long.
func toldDoc(d api.Doc) string {
	var s strings.Builder
	tell := func(what string, l []string) {
		s.WriteString(what + ": " + strconv.Itoa(len(l)))
		for _, x := range l[:min(len(l), 8)] {
			s.WriteString(" " + short(x))
		}
		s.WriteString("; ")
	}
	tell("terms", d.Terms)
	tell("to", d.To)
	return s.String() + "from " + short(d.From) + ", at " + strconv.FormatInt(d.At, 10)
}

// holds fails the test unless Holds answers that of what s asks and d.
func holds(t *testing.T, s string, d api.Doc, want bool) {
	t.Helper()
	q, _, err := query.Parse(s)
	if err != api.OK {
		t.Fatalf("Parse(%s): got %d", short(s), err)
	}
	if query.Holds(q, d) != want {
		t.Errorf("%s, of %s: got %v", short(s), toldDoc(d), !want)
	}
	if query.Holds(not(q), d) == want {
		t.Errorf("not (%s), of %s: got %v", short(s), toldDoc(d), want)
	}
}

func TestHoldsOfTerms(t *testing.T) {
	d := api.Doc{Terms: []string{"0", "a", "abc", "b", "z"}}
	for _, s := range d.Terms {
		holds(t, s, d, true)
		holds(t, s, api.Doc{}, false)
		holds(t, s, api.Doc{From: s, To: []string{s}}, false)
	}
	for _, s := range []string{"ab", "aa", "bc", "abcd", "1", "00", "y"} {
		holds(t, s, d, false)
	}
	// No text is made small: terms are held against each other as they are.
	holds(t, "a", api.Doc{Terms: []string{"A", "ab", "", "a "}}, false)
	holds(t, "a", api.Doc{Terms: []string{"z", "a", "b", "a"}}, true)
}

func TestHoldsOfSenders(t *testing.T) {
	for _, x := range []struct {
		from, asked string
		want        bool
	}{
		{"x@y", "x@y", true}, {"x@Y", "x@y", true}, {"x@y", "x@Y", true}, {"x@Y.ORG", "x@y.Org", true}, {"X@Y", "X@y", true},
		{"X@y", "x@y", false}, {"x@y", "X@y", false}, {"x@y", "x@z", false}, {"x@y", "x@y.z", false}, {"xx@y", "x@y", false},
		{"", "", true}, {"", "x@y", false}, {"x@y", "", false}, {"x", "", false}, {"@", "", false},
	} {
		holds(t, "from:"+x.asked, api.Doc{From: x.from}, x.want)
		holds(t, "from:"+x.asked, api.Doc{From: x.from, To: []string{"x@y", "", x.asked}, Terms: []string{x.asked}}, x.want)
		holds(t, "to:"+x.asked, api.Doc{From: x.from}, false)
		holds(t, "to:"+x.asked, api.Doc{To: []string{x.from}}, x.want)
		holds(t, "to:"+x.asked, api.Doc{From: x.asked, To: []string{"p@q", x.from, "r@s"}}, x.want)
		holds(t, "to:"+x.asked, api.Doc{To: []string{x.from, "p@q", "r@s"}}, x.want)
		holds(t, "to:"+x.asked, api.Doc{To: []string{"p@q", "r@s", x.from}}, x.want)
		holds(t, "from:"+x.asked, api.Doc{From: "p@q", To: []string{x.from}}, false)
	}
	holds(t, "to:", api.Doc{}, false)
	holds(t, "to:a@b", api.Doc{}, false)
	holds(t, "from:", api.Doc{}, true)
}

func TestHoldsOfTimes(t *testing.T) {
	for _, n := range []int64{0, 1, 7, 1 << 32, greatest - 1, greatest} {
		digits := strings.TrimPrefix(query.Show(before(n)), "before:")
		for _, at := range []int64{math.MinInt64, -1, 0, 1, n - 1, n, min(n, greatest-1) + 1, greatest} {
			holds(t, "before:"+digits, api.Doc{At: at}, at < n)
			holds(t, "after:"+digits, api.Doc{At: at}, at >= n)
			holds(t, "before:"+digits+" after:"+digits, api.Doc{At: at}, false)
			holds(t, "before:"+digits+" or after:"+digits, api.Doc{At: at}, true)
		}
	}
}

func TestHoldsOfKids(t *testing.T) {
	d := api.Doc{Terms: []string{"a", "b"}, From: "x@Y", To: []string{"p@q", "r@s"}, At: 7}
	for s, want := range map[string]bool{
		"a b": true, "a c": false, "c a": false, "c d": false, "a b a": true, "a b c": false, "c a b": false, "a c b": false,
		"a or b": true, "a or c": true, "c or a": true, "c or d": false, "c or d or a": true, "c or d or e": false,
		"not a": false, "not c": true, "not not a": true, "not not c": false, "not (a b)": false, "not (a c)": true, "not (c or d)": true, "not (c or a)": false,
		"a b or c": true, "a c or b": true, "a c or b d": false, "a (c or b)": true, "c (a or b)": false, "(a or c) (b or d)": true, "(a or c) (d or e)": false,
		"a not c": true, "a not b": false, "not a or not c": true, "not a not c": false,
		"a from:x@y to:p@q to:r@s after:7 before:8": true, "a from:x@y to:p@q to:r@s after:8": false, "from:p@q or to:x@y or before:7 or c": false,
	} {
		holds(t, s, d, want)
		holds(t, s, api.Doc{Terms: []string{"b", "a"}, From: "x@y", To: []string{"r@S", "p@Q"}, At: 7}, want)
	}
}

// P19.5

// message is one with these words, and an envelope.
func message(body, from string, at int64, to ...string) api.Message {
	return api.Message{ID: 5, Class: "all", Env: api.Envelope{From: from, To: to, At: at}, Body: []byte(body)}
}

// same is whether documents are.
func same(x, y api.Doc) bool {
	return slices.Equal(x.Terms, y.Terms) && x.From == y.From && slices.Equal(x.To, y.To) && x.At == y.At
}

func TestDoc(t *testing.T) {
	for _, x := range []struct {
		m    api.Message
		want api.Doc
	}{
		{api.Message{}, api.Doc{}},
		{message("", "", 0), api.Doc{}},
		{message("", "a@B", 7, "c@d"), api.Doc{From: "a@B", To: []string{"c@d"}, At: 7}},
		{message(" \r\n.é!\x00", "a@b", 7, "c@d"), api.Doc{From: "a@b", To: []string{"c@d"}, At: 7}},
		{message("To be, or not to be!", "", 1, "c@d"), api.Doc{Terms: []string{"be", "not", "or", "to"}, To: []string{"c@d"}, At: 1}},
		{message("Subject: Word\r\n\r\nword WORD 10 9 word2\r\n", "X@Y.Org", greatest, "z@z", "A@a", "z@z"), api.Doc{Terms: []string{"10", "9", "subject", "word", "word2"}, From: "X@Y.Org", To: []string{"z@z", "A@a", "z@z"}, At: greatest}},
		{message(strings.Repeat("A", 40)+" a", "not an address", -1, "", "x"), api.Doc{Terms: []string{"a", strings.Repeat("a", 32)}, From: "not an address", To: []string{"", "x"}, At: -1}},
		{message(strings.Repeat("b a ", 10000), "", math.MinInt64), api.Doc{Terms: []string{"a", "b"}, At: math.MinInt64}},
	} {
		if got := query.Doc(x.m); !same(got, x.want) {
			t.Errorf("Doc of %s: got %s, want %s", short(string(x.m.Body)), toldDoc(got), toldDoc(x.want))
		}
	}
	var to []string
	for i := range 1000 {
		to = append(to, strings.Repeat("x", i%64+1)+"@y")
	}
	if got := query.Doc(message("a", "", 0, to...)); !same(got, api.Doc{Terms: []string{"a"}, To: to}) {
		t.Errorf("many recipients: got %s", toldDoc(got))
	}
}

// What a message is found by.
func TestHoldsOfDocs(t *testing.T) {
	d := query.Doc(message("Subject: Two words\r\n\r\nOf some.\r\n", "Jo@X.Org", 60, "a@B", "c@d"))
	for s, want := range map[string]bool{"subject": true, "two words": true, "some of": true, "from:Jo@x.org": true, "from:jo@x.org": false, "to:a@b to:c@D": true, "to:A@b": false, "after:60 before:61": true, "three or not words": false} {
		holds(t, s, d, want)
	}
}
