package query_test

import (
	"math/big"
	"math/rand/v2"
	"regexp"
	"slices"
	"strconv"
	"strings"
	"testing"

	"scriptorium/api"
	"scriptorium/query"
)

// What a token is, and what the parts of those that are questions alone are, told by patterns: what the calls are held against. Lengths of an address's parts are counted beside it.
var (
	aToken   = regexp.MustCompile(`[()]|[^() \t\r\n]+`)
	aWord    = regexp.MustCompile(`\A[a-z0-9]{1,32}\z`)
	aMailbox = regexp.MustCompile("\\A([a-zA-Z0-9!#$%&'*+/=?^_`{|}~-]+(?:\\.[a-zA-Z0-9!#$%&'*+/=?^_`{|}~-]+)*)@([a-zA-Z0-9](?:[a-zA-Z0-9-]{0,61}[a-zA-Z0-9])?(?:\\.[a-zA-Z0-9](?:[a-zA-Z0-9-]{0,61}[a-zA-Z0-9])?)*)\\z")
	aNumber  = regexp.MustCompile(`\A[0-9]+\z`)
	anyKind  = regexp.MustCompile(`(?s)\A(from:|to:|before:|after:)(.*)\z`)
)

// folded is an address as it is asked for, and whether it is one.
func folded(s string) (string, bool) {
	parts := aMailbox.FindStringSubmatch(s)
	if parts == nil {
		return "", s == ""
	}
	return parts[1] + "@" + strings.ToLower(parts[2]), len(parts[1]) <= 64 && len(parts[2]) <= 255
}

// numbered is the number that digits tell, and whether they do.
func numbered(s string) (int64, bool) {
	if !aNumber.MatchString(s) {
		return 0, false
	}
	n, _ := new(big.Int).SetString(s, 10)
	return n.Int64(), n.IsInt64()
}

// alone is what a token asks that is a question alone, and whether it is one.
func alone(s string) (api.Query, bool) {
	parts := anyKind.FindStringSubmatch(s)
	if parts == nil {
		return term(s), aWord.MatchString(s) && s != "and" && s != "or" && s != "not"
	}
	text, addressed := folded(parts[2])
	n, counted := numbered(parts[2])
	switch parts[1] {
	case "from:":
		return from(text), addressed
	case "to:":
		return to(text), addressed
	case "before:":
		return before(n), counted
	}
	return after(n), counted
}

// level is what has been taken within a bracket: what `or` stands behind, what is behind the last of them, and how many nots stand ahead of what comes.
type level struct {
	ors, ands []api.Query
	nots      int
}

// one is that of those, or one of that kind of them all.
func one(kind int, l []api.Query) api.Query {
	if len(l) == 1 {
		return l[0]
	}
	return api.Query{Op: kind, Kids: l}
}

// add takes a whole question in.
func (l *level) add(q api.Query) {
	l.ands = append(l.ands, nots(l.nots, q))
	l.nots = 0
}

// shut ends what stands ahead of an or, or of the end.
func (l *level) shut() {
	l.ors = append(l.ors, one(api.QAnd, l.ands))
	l.ands = nil
}

// parsed is what the chapter says of Parse, over again: token by token, with a pile of what is open.
func parsed(s string) (api.Query, int, api.Errno) {
	if len(s) > 1000 {
		return api.Query{}, 0, api.ErrLong
	}
	pile := []*level{{}}
	open, wanted := 0, true
	for _, at := range aToken.FindAllStringIndex(s, -1) {
		text := s[at[0]:at[1]]
		top := pile[len(pile)-1]
		q, asks := alone(text)
		switch {
		case (text == "(" || text == "not") && open == 30:
			return api.Query{}, at[0], api.ErrLong
		case text == "(":
			pile = append(pile, &level{})
			open++
			wanted = true
		case text == "not":
			top.nots++
			open++
			wanted = true
		case text == ")" && !wanted && len(pile) > 1:
			top.shut()
			pile = pile[:len(pile)-1]
			outer := pile[len(pile)-1]
			open -= 1 + outer.nots
			outer.add(one(api.QOr, top.ors))
		case text == "and" && !wanted:
			wanted = true
		case text == "or" && !wanted:
			top.shut()
			wanted = true
		case asks:
			open -= top.nots
			top.add(q)
			wanted = false
		default:
			return api.Query{}, at[0], api.ErrQuery
		}
	}
	if wanted || len(pile) > 1 {
		return api.Query{}, len(s), api.ErrQuery
	}
	pile[0].shut()
	return one(api.QOr, pile[0].ors), 0, api.OK
}

// made is the text that the chapter's rule makes of q, whatever q is.
func made(q api.Query) string {
	put := func(between string, bracketed ...int) string {
		var l []string
		for _, k := range q.Kids {
			text := made(k)
			if slices.Contains(bracketed, k.Op) {
				text = "(" + text + ")"
			}
			l = append(l, text)
		}
		return strings.Join(l, between)
	}
	switch q.Op {
	case api.QTerm:
		return q.Text
	case api.QFrom:
		return "from:" + q.Text
	case api.QTo:
		return "to:" + q.Text
	case api.QBefore:
		return "before:" + strconv.FormatInt(q.N, 10)
	case api.QAfter:
		return "after:" + strconv.FormatInt(q.N, 10)
	case api.QAnd:
		return put(" ", api.QAnd, api.QOr)
	case api.QOr:
		return put(" or ", api.QOr)
	case api.QNot:
		return "not " + put("", api.QAnd, api.QOr)
	}
	return ""
}

// open is how many nots and brackets are open in what is made of q, where they are most.
func open(q api.Query) int {
	most := 0
	for _, k := range q.Kids {
		n := open(k)
		if q.Op == api.QNot {
			n++
		}
		if k.Op == api.QOr || k.Op == api.QAnd && q.Op != api.QOr {
			n++
		}
		most = max(most, n)
	}
	return most
}

// formed is whether all parts of q are some that a question may have.
func formed(q api.Query) bool {
	notOne := func(k api.Query) bool { return !formed(k) }
	if slices.ContainsFunc(q.Kids, notOne) {
		return false
	}
	text, addressed := folded(q.Text)
	switch q.Op {
	case api.QTerm:
		_, asks := alone(q.Text)
		return asks && !strings.Contains(q.Text, ":") && q.N == 0 && len(q.Kids) == 0
	case api.QFrom, api.QTo:
		return addressed && text == q.Text && q.N == 0 && len(q.Kids) == 0
	case api.QBefore, api.QAfter:
		return q.N >= 0 && q.Text == "" && len(q.Kids) == 0
	case api.QAnd, api.QOr:
		return len(q.Kids) >= 2 && q.Text == "" && q.N == 0
	case api.QNot:
		return len(q.Kids) == 1 && q.Text == "" && q.N == 0
	}
	return false
}

// may is what the chapter says of Check, told by q's parts.
func may(q api.Query) bool { return formed(q) && len(made(q)) <= 1000 && open(q) <= 30 }

// truth is what the chapter says of Holds, of one that Check takes.
func truth(q api.Query, d api.Doc) bool {
	count := 0
	for _, k := range q.Kids {
		if truth(k, d) {
			count++
		}
	}
	fold := func(addr string) string {
		at := strings.LastIndex(addr, "@")
		if at < 0 {
			return addr
		}
		return addr[:at] + strings.ToLower(addr[at:])
	}
	switch q.Op {
	case api.QTerm:
		return slices.Index(d.Terms, q.Text) >= 0
	case api.QFrom:
		return q.Text == fold(d.From)
	case api.QTo:
		for _, addr := range d.To {
			count += strings.Count("|"+q.Text+"|", "|"+fold(addr)+"|")
		}
		return count > 0
	case api.QBefore:
		return big.NewInt(d.At).Cmp(big.NewInt(q.N)) < 0
	case api.QAfter:
		return big.NewInt(d.At).Cmp(big.NewInt(q.N)) >= 0
	case api.QAnd:
		return count == len(q.Kids)
	case api.QOr:
		return count > 0
	}
	return count == 0
}

// fits fails the test unless the calls answer of s what the chapter says.
func fits(t *testing.T, s string) {
	t.Helper()
	q, at, err := parsed(s)
	if err != api.OK {
		refuses(t, "a model", s, at, err)
		return
	}
	parses(t, "a model", s, q)
	fitsOf(t, q)
}

// fitsOf fails the test unless the calls answer of q what the chapter says.
func fitsOf(t *testing.T, q api.Query) {
	t.Helper()
	if !may(q) {
		showsNone(t, "a model", q)
		return
	}
	shows(t, "a model", q, made(q))
	for _, d := range documents {
		if want := truth(q, d); query.Holds(q, d) != want {
			t.Errorf("%s, of %s: got %v", told(q), toldDoc(d), !want)
		}
	}
}

// drawn is one of those, by lot, the same in each run.
func drawn[T any](r *rand.Rand, from []T) T { return from[r.IntN(len(from))] }

// What texts are put together from: tokens with what stands between them, and bytes by which tokens are told.
var (
	tokens  = []string{"a ", "b ", "and ", "or ", "not ", "(", ") "}
	many    = []string{"a", "b", "word ", "and ", " or ", "not ", "not(", "(", ")", " ", "\t", "\r\n", "from:", "from:x@Y ", "to:P@Q", "to:", "before:7 ", "before:007", "after:8", "after:", "9223372036854775807", "9223372036854775808", "1", "A", ":", "@", "x@y", "é", "\xff", "\v", "-", "nota", "an", strings.Repeat("z", 31), strings.Repeat("0", 20)}
	strokes = []string{"a", "n", "o", "t", "r", "d", ":", "(", ")", " ", "0", "7", "-", "@", "f", "m"}
)

// textOf is n of those pieces, one behind the other.
func textOf(r *rand.Rand, from []string, n int) string {
	var s strings.Builder
	for range n {
		s.WriteString(drawn(r, from))
	}
	return s.String()
}

// P1: any bytes.
func TestAnyBytes(t *testing.T) {
	r := rand.New(rand.NewPCG(19, 1))
	var all []string
	for n := range 256 {
		all = append(all, string([]byte{byte(n)}))
	}
	for _, from := range [][]string{tokens, many, strokes, all, append(slices.Repeat(tokens, 40), all...), append(slices.Repeat(many, 8), strange...)} {
		for range 6000 {
			fits(t, textOf(r, from, r.IntN(12)))
		}
		for range 300 {
			fits(t, textOf(r, from, 100+r.IntN(300)))
		}
	}
}

// grown does do with s and with each text that is s and up to n of those pieces.
func grown(s string, n int, from []string, do func(string)) {
	do(s)
	if n == 0 {
		return
	}
	for _, p := range from {
		grown(s+p, n-1, from, do)
	}
}

func TestAllShortTexts(t *testing.T) {
	grown("", 6, tokens, func(s string) { fits(t, s) })
	grown("", 5, []string{"a", "b", "(", ")", "not", "or", " "}, func(s string) { fits(t, s) })
	grown("", 3, append([]string{"from:", "after:1", "A", "\v"}, many[:14]...), func(s string) { fits(t, s) })
	grown(strings.Repeat("(", 28), 5, tokens, func(s string) { fits(t, s) })
	grown(strings.Repeat("not ", 29)+"(", 4, tokens, func(s string) { fits(t, s) })
	grown(strings.Repeat("not ((", 9)+"not ", 4, tokens, func(s string) { fits(t, s) })
}

// ended is whether some text goes on with s and asks something: a word, if one is wanted, and the ends of all brackets would do.
func ended(s string) bool {
	for _, word := range []string{"", " a"} {
		for n := range strings.Count(s, "(") + 1 {
			if _, _, err := query.Parse(s + word + strings.Repeat(")", n)); err == api.OK {
				return true
			}
		}
	}
	return false
}

// The place that Parse answers, held against the chapter's own words: up to that token nothing can go on, and ahead of it something can.
func TestThePlaceIsTheFirstThatFitsNoContinuation(t *testing.T) {
	check := func(s string) {
		_, at, err := query.Parse(s)
		if err != api.ErrQuery {
			return
		}
		if !ended(s[:at]) {
			t.Errorf("Parse(%s): got %d, but nothing goes on with what is ahead", short(s), at)
		}
		token := aToken.FindString(s[at:])
		if at < len(s) && (!strings.HasPrefix(s[at:], token) || ended(s[:at]+token)) {
			t.Errorf("Parse(%s): got %d, but something goes on with that token", short(s), at)
		}
	}
	grown("", 5, tokens, check)
	grown("", 3, append([]string{"from: ", "after:1 ", "A ", "to:x ", "é"}, tokens...), check)
}

// question is one that looks drawn by lot, with at most so many kids of kids: often one that Check takes.
func question(r *rand.Rand, deep int) api.Query {
	kind := 1 + r.IntN(8)
	if deep == 0 {
		kind = 1 + r.IntN(5)
	}
	var l []api.Query
	for range 2 + r.IntN(3) {
		if deep > 0 && kind > api.QAfter {
			l = append(l, question(r, deep-1))
		}
	}
	switch kind {
	case api.QTerm:
		return drawn(r, []api.Query{a, b, c, d, term("not1"), term("from")})
	case api.QFrom, api.QTo:
		return api.Query{Op: kind, Text: drawn(r, []string{"", "x@y", "p@q", "P@q", "r@s.org"})}
	case api.QBefore, api.QAfter:
		return api.Query{Op: kind, N: drawn(r, []int64{0, 1, 7, 8, 9, greatest})}
	case api.QNot:
		l = l[:1]
	}
	return api.Query{Op: kind, Kids: l}
}

// spoilt is q with one of its parts made another one.
func spoilt(r *rand.Rand, q api.Query) api.Query {
	q.Kids = slices.Clone(q.Kids)
	if len(q.Kids) > 0 && r.IntN(3) > 0 {
		at := r.IntN(len(q.Kids))
		q.Kids[at] = spoilt(r, q.Kids[at])
		return q
	}
	switch r.IntN(5) {
	case 0:
		q.Op = r.IntN(11) - 1
	case 1:
		q.Text = drawn(r, []string{"", "a", "A", "not", "a b", "a) (b", "x@y", "x@Y", "x", "a or b", "from:x@y", "before:1", "("})
	case 2:
		q.N = drawn(r, []int64{-1, 0, 1, 7, greatest})
	case 3:
		q.Kids = q.Kids[:r.IntN(len(q.Kids)+1)]
	case 4:
		q.Kids = append(q.Kids, drawn(r, []api.Query{a, {}, and(a), and(a, b), or(a, b), not(a)}))
	}
	return q
}

// P1: any queries. P19.6: those that Check takes come back.
func TestAnyQueries(t *testing.T) {
	r := rand.New(rand.NewPCG(19, 2))
	good, bad := 0, 0
	for range 20_000 {
		q := question(r, r.IntN(6))
		fitsOf(t, q)
		if query.Check(q) {
			good++
		}
		q = spoilt(r, q)
		fitsOf(t, q)
		if !query.Check(q) {
			bad++
		}
	}
	if good < 10_000 || bad < 8000 {
		t.Errorf("of the queries %d may be, of those that are spoilt %d may not", good, bad)
	}
}

// What is asked by a text is asked by what Show writes of it, unless that would be too long.
func TestShowOfParseAsksTheSame(t *testing.T) {
	r := rand.New(rand.NewPCG(19, 3))
	good := 0
	for range 20_000 {
		s := loose(r, question(r, 4))
		q, _, err := query.Parse(s)
		if err != api.OK || !query.Check(q) {
			if len(s) < 500 {
				t.Errorf("%s: %d, %v", short(s), err, query.Check(q))
			}
			continue
		}
		again, _, err := query.Parse(query.Show(q))
		if err != api.OK || !alike(again, q) {
			t.Errorf("%s is shown as %s", short(s), short(query.Show(q)))
		}
		for _, d := range documents {
			if query.Holds(q, d) != query.Holds(again, d) {
				t.Errorf("%s is shown as %s, and answers otherwise", short(s), short(query.Show(q)))
			}
		}
		good++
	}
	if good < 15_000 {
		t.Errorf("only %d of the texts fit", good)
	}
}

// loose is a text that asks what q does, with blanks, brackets and noughts that Show wouldn't write.
func loose(r *rand.Rand, q api.Query) string {
	between := drawn(r, []string{" ", "\t", "  ", "\r\n", " and ", "\nand\t"})
	switch q.Op {
	case api.QBefore, api.QAfter:
		return strings.Replace(made(q), ":", ":"+strings.Repeat("0", r.IntN(3)), 1)
	case api.QFrom, api.QTo:
		local, domain, _ := strings.Cut(made(q), "@")
		if domain == "" {
			return local
		}
		return local + "@" + drawn(r, []string{domain, strings.ToUpper(domain)})
	case api.QTerm:
		return q.Text
	case api.QOr:
		between = drawn(r, []string{" or ", "\tor\t", "  or\r\n"})
	}
	var l []string
	for _, k := range q.Kids {
		s := loose(r, k)
		if k.Op == api.QOr || k.Op == api.QAnd && q.Op != api.QOr || r.IntN(6) == 0 {
			s = drawn(r, []string{"(", "( "}) + s + drawn(r, []string{")", "\n)"})
		}
		l = append(l, s)
	}
	if q.Op == api.QNot {
		return "not" + drawn(r, []string{" ", "\t"}) + l[0]
	}
	return strings.Join(l, between)
}

// The laws of what holds, between the calls.
func TestHoldsByLaws(t *testing.T) {
	r := rand.New(rand.NewPCG(19, 4))
	for range 5000 {
		p, q := question(r, 2), question(r, 2)
		for _, d := range documents {
			x, y := query.Holds(p, d), query.Holds(q, d)
			if query.Holds(and(p, q), d) != (x && y) || query.Holds(and(q, p), d) != (x && y) || query.Holds(or(p, q), d) != (x || y) || query.Holds(or(q, p), d) != (x || y) || query.Holds(not(p), d) == x || query.Holds(not(not(q)), d) != y || query.Holds(not(and(p, q)), d) != query.Holds(or(not(p), not(q)), d) {
				t.Errorf("%s and %s, of %s: %v, %v", told(p), told(q), toldDoc(d), x, y)
			}
		}
	}
}

func FuzzAnyBytes(f *testing.F) {
	for _, s := range append(slices.Clone(many), "a b or not c", "not (a or from:x@Y) before:007", strings.Repeat("(", 31)) {
		f.Add(s, 1, int64(7))
	}
	f.Fuzz(func(t *testing.T, s string, kind int, n int64) {
		fits(t, s)
		fitsOf(t, api.Query{Op: kind, Text: s, N: n})
		fitsOf(t, api.Query{Op: 1 + kind&7, Text: s})
		fitsOf(t, not(and(api.Query{Op: kind, N: n}, term(s))))
	})
}
