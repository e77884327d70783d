package retain_test

import (
	"math"
	"math/big"
	"math/rand/v2"
	"regexp"
	"slices"
	"strings"
	"testing"
	"unsafe"

	"scriptorium/api"
	"scriptorium/retain"
)

// What a class's name is, and a rule's domain, told by patterns: what the calls are held against. A domain's length is counted beside it.
var (
	aName   = regexp.MustCompile(`\A[a-z]{1,20}\z`)
	aDomain = regexp.MustCompile(`\A[a-z0-9]([a-z0-9-]{0,61}[a-z0-9])?(\.[a-z0-9]([a-z0-9-]{0,61}[a-z0-9])?)*\z`)
)

// toSmall makes small letters of large ones, byte by byte.
var toSmall = func() *strings.Replacer {
	var pairs []string
	for _, c := range each(small) {
		pairs = append(pairs, strings.ToUpper(c), c)
	}
	return strings.NewReplacer(pairs...)
}()

// may is what the chapter says of Check, over again.
func may(l []api.Class, rules []api.Rule) bool {
	ok := 1 <= len(l) && len(l) <= 100 && len(rules) <= 100
	for i, c := range l {
		ok = ok && aName.MatchString(c.Name) && c.Keep > 0
		for _, other := range l[:i] {
			ok = ok && other.Name != c.Name
		}
	}
	for _, r := range rules {
		known := false
		for _, c := range l {
			known = known || c.Name == r.Class
		}
		ok = ok && known && len(r.Domain) <= 255 && aDomain.MatchString(r.Domain)
	}
	return ok
}

// first is what the chapter says of Find, over again, from the end on.
func first(l []api.Class, name string) (api.Class, bool) {
	var c api.Class
	found := false
	for _, other := range slices.Backward(l) {
		if other.Name == name {
			c, found = other, true
		}
	}
	return c, found
}

// chosen is what the chapter says of Choose, over again, from the last rule on.
func chosen(l []api.Class, rules []api.Rule, e api.Envelope) string {
	name := ""
	if len(l) > 0 {
		name = l[0].Name
	}
	for _, r := range slices.Backward(rules) {
		for _, addr := range append([]string{e.From}, e.To...) {
			parts := strings.Split(addr, "@")
			domain := ""
			if len(parts) > 1 {
				domain = parts[len(parts)-1]
			}
			if toSmall.Replace(domain) == r.Domain {
				name = r.Class
			}
		}
	}
	return name
}

// sum is what the chapter says of Until, over again, in numbers that have no end.
func sum(at, keep int64) int64 {
	n := big.NewInt(at)
	if keep > 0 {
		n.Add(n, big.NewInt(keep))
	}
	if !n.IsInt64() {
		return math.MaxInt64
	}
	return n.Int64()
}

// holds fails the test unless the calls answer of these what the chapter says.
func holds(t *testing.T, l []api.Class, rules []api.Rule, e api.Envelope, asked string, at, now int64) {
	t.Helper()
	checks(t, "a model", l, rules, may(l, rules))
	c, ok := first(l, asked)
	if ok {
		finds(t, "a model", l, asked, c)
	} else {
		findsNone(t, "a model", l, asked)
	}
	chooses(t, "a model", l, rules, e.From, e.To, chosen(l, rules, e))
	until(t, "a model", at, c.Keep, sum(at, c.Keep))
	over(t, "a model", l, asked, at, now, ok && now >= sum(at, c.Keep))
}

// drawn is one of those, by lot, the same in each run.
func drawn[T any](r *rand.Rand, from []T) T { return from[r.IntN(len(from))] }

// several are up to n of those.
func several[T any](r *rand.Rand, from []T, n int) []T {
	var l []T
	for range r.IntN(n + 1) {
		l = append(l, drawn(r, from))
	}
	return l
}

// What lists are put together from: few of a kind, so that they meet each other.
var (
	goodNames   = []string{"a", "b", "c", "d", "e", "legal", strings.Repeat("a", 20)}
	allNames    = append(slices.Clone(goodNames), "", "A", "a b", "`", "{", "a1", strings.Repeat("a", 21), "é", "\xff")
	goodDomains = []string{"x", "x.org", "y.org", "x-y.org", "1.2.3.4", strings.Repeat("x", 63)}
	allDomains  = append(slices.Clone(goodDomains), "", "X", "X.org", "[1.2.3.4]", "x.", "-x", "x..y", strings.Repeat("x", 64), "a@x", "é.org", "\xff")
	addresses   = []string{"", "a", "x.org", "a@x", "a@X", "b@x.org", "B@X.ORG", "c@y.org", "d@x-Y.org", "e@q", "e@q.org", "a@1.2.3.4", "a@[1.2.3.4]", "@", "@x", "x@", "a@b@x.org", "a@x.org@b", "\xff@\xff", "a@é.org", "a@É.org"}
	keeps       = []int64{1, 2, 10, 3600, 1 << 32, 1 << 62, end - 1, end}
	allKeeps    = append(slices.Clone(keeps), 0, -1, -10, -1<<62, math.MinInt64)
)

// lists tells classes and rules that look drawn by lot: of some all that is in them may be, of others only most.
func lists(yield func([]api.Class, []api.Rule) bool) {
	r := rand.New(rand.NewPCG(13, 1))
	for i := range 20000 {
		names, domains, keep := goodNames, goodDomains, keeps
		switch i % 8 {
		case 5:
			names = allNames
		case 6:
			domains = allDomains
		case 7:
			keep = allKeeps
		}
		var l []api.Class
		for range r.IntN(5) {
			l = append(l, class(drawn(r, names), drawn(r, keep)))
		}
		var rules []api.Rule
		for range r.IntN(5) {
			name := drawn(r, allNames)
			if len(l) > 0 && r.IntN(8) > 0 {
				name = drawn(r, l).Name
			}
			rules = append(rules, rule(drawn(r, domains), name))
		}
		if !yield(l, rules) {
			return
		}
	}
}

// P1: any lists, any bytes, any numbers.
func TestAnyLists(t *testing.T) {
	r := rand.New(rand.NewPCG(13, 2))
	good := 0
	for l, rules := range lists {
		e := api.Envelope{From: drawn(r, addresses), To: several(r, addresses, 3), At: drawn(r, allKeeps)}
		holds(t, l, rules, e, drawn(r, allNames), drawn(r, times), drawn(r, times))
		if may(l, rules) {
			good++
		}
	}
	if good < 2000 {
		t.Errorf("of the lists only %d are some that may be", good)
	}
}

func TestAnyNumbers(t *testing.T) {
	r := rand.New(rand.NewPCG(13, 3))
	for _, at := range append(slices.Clone(times), allKeeps...) {
		for _, keep := range append(slices.Clone(times), allKeeps...) {
			until(t, "a model", at, keep, sum(at, keep))
			overFrom(t, "a model", []api.Class{class("a", keep)}, "a", at, sum(at, keep))
		}
	}
	for range 100000 {
		// Numbers of each length, not nearly all of them great ones.
		at, keep := int64(r.Uint64())>>r.IntN(64), int64(r.Uint64())>>r.IntN(64)
		until(t, "a model", at, keep, sum(at, keep))
	}
}

func TestAnyBytes(t *testing.T) {
	r := rand.New(rand.NewPCG(13, 4))
	draw := func(from string) string {
		b := make([]byte, r.IntN(24))
		for i := range b {
			b[i] = from[r.IntN(len(from))]
		}
		return string(b)
	}
	for _, from := range []string{"ab", "aZ", "a@.", "aB@.", "az`{", "a-.", "\x00\x7f\x80\xffa", "a\xc3\xa9"} {
		for range 2000 {
			l := []api.Class{class(draw(from), 1), class(draw(from), 2)}
			rules := []api.Rule{rule(draw(from), l[1].Name), rule(draw(from), draw(from))}
			e := api.Envelope{From: draw(from), To: []string{draw(from), draw(from) + "@" + rules[0].Domain}}
			holds(t, l, rules, e, draw(from), 5, 6)
			holds(t, l, rules[:1], e, l[1].Name, 5, 7)
		}
	}
}

func TestLongTexts(t *testing.T) {
	const n = 1 << 20
	for _, s := range []string{"a", "A", ".", "@", "-", "\x00", "\xff", "a.", "a@"} {
		long := strings.Repeat(s, n/len(s))
		l := []api.Class{class("a", 1), class(long, 2)}
		rules := []api.Rule{rule("x.org", "a"), rule(long, long), rule(strings.ToLower(long), "b")}
		checks(t, "long names", l, nil, false)
		checks(t, "long domains", l[:1], rules, false)
		finds(t, "long", l, long, l[1])
		findsNone(t, "long", l, long+"a")
		chooses(t, "long", l, rules, "x@"+long, []string{long, long + "@y"}, chosen(l, rules, api.Envelope{From: "x@" + long, To: []string{long}}))
		chooses(t, "long ahead of it", l, rules, long+"@x.org", nil, "a")
	}
	many := slices.Repeat(addresses, 5000)
	rules := append(domains(50000, two()), rule("x-y.org", "legal"))
	chooses(t, "many of both", two(), rules, "q@q", many, "legal")
	chooses(t, "many of both", two(), rules[:50000], "q@q", many, "a")
}

func FuzzAnyBytes(f *testing.F) {
	for _, s := range append(slices.Clone(addresses), strange...) {
		f.Add("a", "b", "x.org", "q@q", s, int64(1), int64(5), int64(6))
		f.Add(s, "b", s, "a@"+s, s, int64(0), end, end)
	}
	f.Fuzz(func(t *testing.T, one, other, domain, from, to string, keep, at, now int64) {
		l := []api.Class{class(one, keep), class(other, 1)}
		rules := []api.Rule{rule(domain, one), rule(to, other)}
		for n := range 3 {
			holds(t, l[:n], rules[:min(n, 1)], api.Envelope{From: from, To: []string{to}}, one, at, now)
			holds(t, l[n/2:], rules, api.Envelope{From: to, To: []string{from}}, other, now, at)
		}
	})
}

// P2

// given is what the calls are given in the tests of memory: lists with room behind them, in which something else stands.
type given struct {
	l        []api.Class
	rules    []api.Rule
	e        api.Envelope
	allTexts [][]byte
}

// text is s in memory of its own, which the test can change.
func (g *given) text(s string) string {
	if s == "" {
		return ""
	}
	b := []byte(s)
	g.allTexts = append(g.allTexts, b)
	return unsafe.String(&b[0], len(b))
}

// made is a given of these, with one more thing behind each list's length that would be answered, were it read.
func made(from string, to ...string) *given {
	g := &given{}
	for _, c := range two() {
		g.l = append(g.l, class(g.text(c.Name), c.Keep))
	}
	for _, r := range threeRules() {
		g.rules = append(g.rules, rule(g.text(r.Domain), g.text([]string{"a", "legal", "a"}[len(g.rules)])))
	}
	for _, addr := range to {
		g.e.To = append(g.e.To, g.text(addr))
	}
	g.e.From = g.text(from)
	g.l = append(g.l, class("behind", 3))[:len(g.l)]
	g.rules = append(g.rules, rule("behind.org", "behind"))[:len(g.rules)]
	g.e.To = append(g.e.To, "a@y.org")[:len(g.e.To)]
	return g
}

// texts are all that the calls answer of what is given.
func (g *given) texts() []string {
	a, _ := retain.Find(g.l, "a")
	legal, _ := retain.Find(g.l, "legal")
	return []string{a.Name, legal.Name, retain.Choose(g.l, g.rules, g.e), retain.Choose(g.l, nil, g.e), retain.Choose(g.l, g.rules, api.Envelope{})}
}

// envelopes are what is given, with what Choose answers of each.
var envelopes = []struct {
	from, want string
	to         []string
}{
	{"b@q", "a", nil},
	{"b@Y.org", "legal", nil},
	{"b@q", "legal", []string{"c@q", "d@y.org"}},
	{"", "a", []string{"c@Z.ORG", "d@q"}},
	{"", "a", nil},
	{"b@behind.org", "a", []string{"c@behind.org"}},
}

func TestAnswersShareNothingWithArguments(t *testing.T) {
	for _, one := range envelopes {
		g := made(one.from, one.to...)
		got := g.texts()
		for _, b := range g.allTexts {
			for i := range b {
				b[i] = '!'
			}
		}
		if want := []string{"a", "legal", one.want, "a", "a"}; !slices.Equal(got, want) {
			t.Errorf("%s: answers share memory with arguments: got %q, want %q", short(one.from), got, want)
		}
	}
}

// overlap is whether two texts share memory.
func overlap(a, b string) bool {
	if a == "" || b == "" {
		return false
	}
	x, y := uintptr(unsafe.Pointer(unsafe.StringData(a))), uintptr(unsafe.Pointer(unsafe.StringData(b)))
	return x < y+uintptr(len(b)) && y < x+uintptr(len(a))
}

func TestAnswersShareNothingWithEachOther(t *testing.T) {
	// A text of one byte is one that the language keeps for all: these are longer.
	l := []api.Class{class("first", 1), class("second", 2)}
	rules := []api.Rule{rule("x.org", "second")}
	var all []string
	for range 2 {
		c, _ := retain.Find(l, "second")
		all = append(all, c.Name, retain.Choose(l, rules, api.Envelope{From: "a@x.org"}), retain.Choose(l, rules, api.Envelope{}))
	}
	for i, a := range all {
		for _, given := range []string{l[0].Name, l[1].Name, rules[0].Class} {
			if overlap(a, given) {
				t.Errorf("answer %d shares memory with an argument", i)
			}
		}
		for j, b := range all[:i] {
			if overlap(a, b) {
				t.Errorf("answers %d and %d share memory", i, j)
			}
		}
	}
}

// Neither what was given is changed, nor what lies behind a list's length; that isn't read either.
func TestArgumentsAreLeft(t *testing.T) {
	for _, one := range envelopes {
		g, as := made(one.from, one.to...), made(one.from, one.to...)
		checks(t, "given", g.l, g.rules, true)
		chooses(t, "given", g.l, g.rules, g.e.From, g.e.To, one.want)
		chooses(t, "no classes", g.l[:0], nil, g.e.From, g.e.To, "")
		chooses(t, "no rules", g.l, g.rules[:0], g.e.From, g.e.To, "a")
		findsNone(t, "behind", g.l, "behind")
		finds(t, "given", g.l, "legal", class("legal", 1<<62))
		findsNone(t, "behind", g.l[:1], "legal")
		over(t, "behind", g.l, "behind", 0, end, false)
		over(t, "given", g.l, "a", 0, end, true)
		behind := len(g.e.To) + 1
		if !slices.Equal(g.l[:3], as.l[:3]) || !slices.Equal(g.rules[:4], as.rules[:4]) || g.e.From != as.e.From || !slices.Equal(g.e.To[:behind], as.e.To[:behind]) {
			t.Errorf("%s: what was given was changed: %v, %v, %q", short(one.from), g.l[:3], g.rules[:4], g.e.To[:behind])
		}
	}
}

// What Check would refuse behind a list's length, or take, isn't asked.
func TestCheckLeavesWhatLiesBehind(t *testing.T) {
	for n := range 3 {
		l := append(two()[:n:n], class("A", 0), class("a", 1))
		rules := append(threeRules()[:0:0], rule("X", "none"))
		checks(t, "behind", l[:n], rules[:0], n > 0)
		checks(t, "within", l, rules[:0], false)
		checks(t, "within", two(), rules, false)
	}
	many := named(101)
	checks(t, "behind the 100", many[:100], domains(101, many)[:100], true)
	checks(t, "a rule's class behind them", many[:50], []api.Rule{rule("x.org", many[50].Name)}, false)
}

// P3

func TestNilIsNothing(t *testing.T) {
	for _, l := range [][]api.Class{nil, {}, make([]api.Class, 0, 3), two()[:0]} {
		for _, rules := range [][]api.Rule{nil, {}, make([]api.Rule, 0, 3), threeRules()[:0]} {
			for _, to := range [][]string{nil, {}, make([]string, 0, 3)} {
				checks(t, "nothing", l, rules, false)
				checks(t, "no rules", two(), rules, true)
				findsNone(t, "nothing", l, "")
				findsNone(t, "nothing", l, "a")
				chooses(t, "nothing", l, rules, "", to, "")
				chooses(t, "no rules", two(), rules, "a@x.org", to, "a")
				chooses(t, "no recipients", l, threeRules(), "a@x.org", to, "x")
				over(t, "nothing", l, "", 0, end, false)
			}
		}
	}
}

// Choose doesn't ask when a message came; no call asks what another one was given.
func TestAnswersHangOnArgumentsAlone(t *testing.T) {
	for l, rules := range lists {
		may := retain.Check(l, rules)
		for _, at := range []int64{math.MinInt64, -1, 0, 5, end} {
			if got := retain.Choose(three(), threeRules(), api.Envelope{From: "a@q", To: []string{"b@y.org"}, At: at}); got != "y" {
				t.Fatalf("%d: got %s", at, short(got))
			}
		}
		overFrom(t, "in turn", two(), "a", 5, 15)
		if got := retain.Check(l, rules); got != may {
			t.Fatalf("Check: got %d behind %d", got, may)
		}
	}
}
