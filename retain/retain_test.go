package retain_test

import (
	"math"
	"slices"
	"strconv"
	"strings"
	"testing"

	"scriptorium/api"
	"scriptorium/retain"
)

// small are the letters that a class's name may have.
const small = "abcdefghijklmnopqrstuvwxyz"

// end is the end of all time.
const end int64 = math.MaxInt64

// strange are texts that another rule of letters would take for some, or make some of.
var strange = []string{"é", "É", "ß", "ä", "д", "α", "\u212a", "\u017f", "\u0130", "\u0131", "\uff21", "\uff41", "\u00aa", "\u0301", "\U0001d41a", "\ufffd", "\xff", "\xc3", "\x80", "\xe1", "\xc1\xa1", "\xed\xa0\x80"}

// short is s as a test tells it.
func short(s string) string {
	if len(s) > 200 {
		return strconv.Quote(s[:100]) + " .. (" + strconv.Itoa(len(s)) + " bytes)"
	}
	return strconv.Quote(s)
}

// each tells each byte of s as a text.
func each(s string) []string { return strings.Split(s, "") }

// class is one of that name.
func class(name string, keep int64) api.Class { return api.Class{Name: name, Keep: keep} }

// rule is one of that domain.
func rule(domain, class string) api.Rule { return api.Rule{Domain: domain, Class: class} }

// two are classes on which most tests stand.
func two() []api.Class { return []api.Class{class("a", 10), class("legal", 1<<62)} }

// named are n classes of unlike names: a, b, .., z, aa, ab, ..
func named(n int) []api.Class {
	var l []api.Class
	for i := range n {
		name := small[i%26 : i%26+1]
		if i >= 26 {
			name = small[i/26-1:i/26] + name
		}
		l = append(l, class(name, int64(i)+1))
	}
	return l
}

// domains are n rules of unlike domains, each with one of those classes.
func domains(n int, l []api.Class) []api.Rule {
	var rules []api.Rule
	for i := range n {
		rules = append(rules, rule("x"+strconv.Itoa(i)+".org", l[i%len(l)].Name))
	}
	return rules
}

// checks fails the test unless Check finds that these may be, or may not be.
func checks(t *testing.T, what string, l []api.Class, rules []api.Rule, ok bool) {
	t.Helper()
	want := api.ErrClass
	if ok {
		want = api.OK
	}
	if got := retain.Check(l, rules); got != want {
		t.Errorf("%s: Check of %d classes, %d rules: got %d, want %d", what, len(l), len(rules), got, want)
	}
}

// checksClass fails the test unless Check finds that c may be, or may not be: alone, and among others as each of them.
func checksClass(t *testing.T, what string, c api.Class, ok bool) {
	t.Helper()
	what += " (" + short(c.Name) + ", " + strconv.FormatInt(c.Keep, 10) + ")"
	checks(t, what+" alone", []api.Class{c}, nil, ok)
	others := []api.Class{class("qqqqqqqqqqqqqqqqqqq", 1), class("qqqqqqqqqqqqqqqqqqz", end), class("qqqqqqqqqqqqqqqqqqx", 7)}
	for i := range len(others) + 1 {
		l := slices.Insert(slices.Clone(others), i, c)
		checks(t, what+" among others", l, nil, ok)
		checks(t, what+" with a rule", l, []api.Rule{rule("x.org", "qqqqqqqqqqqqqqqqqqq")}, ok)
	}
	checks(t, what+" with a rule of it", []api.Class{c}, []api.Rule{rule("x.org", c.Name)}, ok)
}

// checksRule fails the test unless Check finds that r may be, or may not be, with the classes of two: alone, and among others as each of them.
func checksRule(t *testing.T, what string, r api.Rule, ok bool) {
	t.Helper()
	what += " (" + short(r.Domain) + ", " + short(r.Class) + ")"
	checks(t, what+" alone", two(), []api.Rule{r}, ok)
	others := []api.Rule{rule("q.org", "a"), rule("q-q.org", "legal"), rule("q.org", "a")}
	for i := range len(others) + 1 {
		checks(t, what+" among others", two(), slices.Insert(slices.Clone(others), i, r), ok)
	}
	for _, i := range []int{0, 50, 99} {
		checks(t, what+" among many", two(), slices.Insert(domains(99, two()), i, r), ok)
	}
	checks(t, what+" without classes", nil, []api.Rule{r}, false)
}

// P13.1

func TestCheckOrdinary(t *testing.T) {
	checks(t, "two classes, no rule", two(), nil, true)
	checks(t, "two classes, a rule", two(), []api.Rule{rule("x.org", "legal")}, true)
	checks(t, "two classes, rules of both", two(), []api.Rule{rule("x.org", "legal"), rule("y.org", "a"), rule("mail.x.org", "a")}, true)
	checks(t, "one class, a rule", []api.Class{class("all", 1)}, []api.Rule{rule("localhost", "all")}, true)
}

func TestCheckHowManyClasses(t *testing.T) {
	for _, n := range []int{1, 2, 26, 27, 99, 100} {
		checks(t, "classes", named(n), nil, true)
		checks(t, "classes and rules", named(n), domains(100, named(n)), true)
	}
	for _, n := range []int{0, 101, 102, 200, 256, 400} {
		checks(t, "classes", named(n), nil, false)
		checks(t, "classes and rules", named(n), domains(2, two()), false)
	}
	checks(t, "very many", slices.Repeat(two(), 1<<20), nil, false)
}

func TestCheckHowManyRules(t *testing.T) {
	for _, n := range []int{0, 1, 2, 99, 100} {
		checks(t, "rules", two(), domains(n, two()), true)
		checks(t, "rules of many classes", named(100), domains(n, named(100)), true)
	}
	for _, n := range []int{101, 102, 200, 256, 1 << 20} {
		checks(t, "rules", two(), domains(n, two()), false)
		checks(t, "rules of many classes", named(100), domains(n, named(100)), false)
	}
	checks(t, "101 that are alike", two(), slices.Repeat([]api.Rule{rule("x.org", "a")}, 101), false)
	checks(t, "rules without classes", nil, domains(2, two()), false)
}

func TestCheckNamesLengths(t *testing.T) {
	for n := range 60 {
		for _, s := range []string{"a", "z", "m", small} {
			checksClass(t, "long", class(strings.Repeat(s, n)[:n], 1), n >= 1 && n <= 20)
		}
	}
	checksClass(t, "very long", class(strings.Repeat("a", 1<<20), 1), false)
	checksClass(t, "20 bytes, fewer letters", class(strings.Repeat("é", 10), 1), false)
}

func TestCheckNamesOfEachByte(t *testing.T) {
	for c := range 256 {
		s := string([]byte{byte(c)})
		ok := strings.Contains(small, s)
		for _, name := range []string{s, s + "a", "z" + s, "a" + s + "z", s + strings.Repeat("m", 19), strings.Repeat("m", 19) + s, "nnnnnnnnnn" + s + "nnnnnnnnn"} {
			checksClass(t, "a byte", class(name, 1), ok)
		}
		checksClass(t, "a byte, too long", class(s+strings.Repeat("m", 20), 1), false)
	}
}

func TestCheckNamesOrdinary(t *testing.T) {
	for _, s := range append(each(small), "legal", "all", "short", "keep", "forever", "none", "class", small[:20], small[6:]) {
		checksClass(t, "a name", class(s, 1), true)
	}
	for _, s := range append([]string{"", "A", "Z", "Legal", "LEGAL", "legaL", "0", "a1", "9z", " ", " a", "a ", "a b", "`", "{", "a`", "{z", "@", "[", "a-b", "a.b", "a_b", "a\n", "\ta", "a\x00", "\x00"}, strange...) {
		checksClass(t, "no name", class(s, 1), false)
		if s != "" {
			checksClass(t, "no name, behind one", class("ab"+s, 1), false)
		}
	}
}

func TestCheckNamesAlike(t *testing.T) {
	for _, n := range []int{2, 3, 50, 100} {
		for _, at := range [][2]int{{0, 1}, {0, n - 1}, {n / 2, n - 1}, {n - 2, n - 1}} {
			if at[0] == at[1] {
				continue
			}
			l := named(n)
			l[at[1]].Name = l[at[0]].Name
			checks(t, "two are alike", l, nil, false)
			checks(t, "two are alike, with a rule", l, []api.Rule{rule("x.org", l[0].Name)}, false)
			l[at[1]].Name += "qqq"
			l[at[0]].Name += "qqqq"
			checks(t, "none are alike", l, nil, true)
		}
		checks(t, "all are alike", slices.Repeat([]api.Class{class("a", 1)}, n), nil, false)
	}
	checks(t, "alike, with the same Keep", []api.Class{class("a", 1), class("a", 1)}, nil, false)
	checks(t, "alike, with another Keep", []api.Class{class("a", 1), class("b", 1), class("a", 2)}, nil, false)
	checks(t, "three of which two are alike", []api.Class{class("b", 1), class("a", 1), class("a", 1)}, nil, false)
	checks(t, "unlike, with the same Keep", []api.Class{class("a", 1), class("b", 1), class("aa", 1)}, nil, true)
	last := strings.Repeat("a", 19)
	checks(t, "unlike in their last letter", []api.Class{class(last+"a", 1), class(last+"b", 1), class(last, 1)}, nil, true)
	checks(t, "unlike in their first letter", []api.Class{class("a"+last, 1), class("b"+last, 1)}, nil, true)
	checks(t, "falling", []api.Class{class("c", 1), class("b", 1), class("a", 1)}, nil, true)
}

func TestCheckKeep(t *testing.T) {
	for _, keep := range []int64{1, 2, 3600, 1 << 31, 1 << 32, 1 << 62, end - 1, end} {
		checksClass(t, "kept", class("keep", keep), true)
	}
	for _, keep := range []int64{0, -1, -2, -3600, -1 << 31, -1 << 32, math.MinInt64 + 1, math.MinInt64} {
		checksClass(t, "not kept", class("keep", keep), false)
	}
}

func TestCheckDomains(t *testing.T) {
	long := strings.Repeat(strings.Repeat("d", 63)+".", 3)
	for _, s := range []string{"x", "x.org", "a.b.c.d", "0", "1.2.3.4", "x-y.org", "a--b.c-d", "9x.x9", "xn--4ca.org", "localhost", strings.Repeat("x", 63), long + strings.Repeat("e", 63), strings.Repeat("a.", 127) + "b"} {
		checksRule(t, "a domain", rule(s, "a"), true)
		checksRule(t, "a domain", rule(s, "legal"), true)
	}
	for _, s := range append([]string{
		"", ".", "-", "x.", ".x", "x..y", "-x", "x-", "x.-y", "x-.y", "x_y", "x y", " x.org", "x.org ", "x.org\n", "x\x00", "a@x.org", "@x.org", "<x.org>", "*", "*.org",
		"[1.2.3.4]", "[IPv6:::1]", "[ipv6:::1]", "[]", "[x]", "::1",
		strings.Repeat("x", 64), long + strings.Repeat("e", 62) + ".f", strings.Repeat("a.", 128) + "b", strings.Repeat("x", 1<<20),
	}, strange...) {
		checksRule(t, "no domain", rule(s, "a"), false)
	}
}

func TestCheckDomainsOfEachByte(t *testing.T) {
	const inside = small + "0123456789-"
	for c := range 256 {
		s := string([]byte{byte(c)})
		checksRule(t, "a byte within", rule("x"+s+"y.org", "a"), strings.Contains(inside+".", s))
		checksRule(t, "a byte within the last label", rule("x.o"+s+"g", "a"), strings.Contains(inside+".", s))
		checksRule(t, "a byte alone", rule(s, "a"), strings.Contains(inside, s) && s != "-")
		checksRule(t, "a byte at the beginning", rule(s+"x", "a"), strings.Contains(inside, s) && s != "-")
		checksRule(t, "a byte at the end", rule("x"+s, "a"), strings.Contains(inside, s) && s != "-")
	}
}

func TestCheckDomainsWithLargeLetters(t *testing.T) {
	for _, s := range each(strings.ToUpper(small)) {
		for _, d := range []string{s, s + ".org", "x." + s, "x" + s + ".org", "x.o" + s + "g", "x.org" + s, strings.ToUpper("x.org")} {
			checksRule(t, "a large letter", rule(d, "a"), false)
			checksRule(t, "the small one", rule(strings.ToLower(d), "a"), true)
		}
	}
}

func TestCheckRulesClasses(t *testing.T) {
	checksRule(t, "the first class", rule("x.org", "a"), true)
	checksRule(t, "the last class", rule("x.org", "legal"), true)
	for _, s := range append([]string{"", "b", "A", "Legal", "LEGAL", "legal ", " legal", "lega", "legall", "aa", "a.", "x.org", "10", strings.Repeat("a", 21)}, strange...) {
		checksRule(t, "none of the classes", rule("x.org", s), false)
	}
	l := named(100)
	for _, c := range l {
		checks(t, "each class", l, []api.Rule{rule("x.org", c.Name)}, true)
		checks(t, "none of them", l, []api.Rule{rule("x.org", c.Name+"xx")}, false)
	}
}

func TestCheckRulesAlike(t *testing.T) {
	checks(t, "alike", two(), []api.Rule{rule("x.org", "a"), rule("x.org", "a")}, true)
	checks(t, "alike, far from each other", two(), []api.Rule{rule("x.org", "a"), rule("y.org", "a"), rule("z.org", "legal"), rule("x.org", "a")}, true)
	checks(t, "of one domain", two(), []api.Rule{rule("x.org", "a"), rule("x.org", "legal")}, true)
	checks(t, "of one class", two(), []api.Rule{rule("x.org", "a"), rule("y.org", "a")}, true)
	checks(t, "100 that are alike", two(), slices.Repeat([]api.Rule{rule("x.org", "a")}, 100), true)
	checks(t, "a class without a rule", named(100), []api.Rule{rule("x.org", "b")}, true)
}

// P13.2

// finds fails the test unless Find answers that class.
func finds(t *testing.T, what string, l []api.Class, name string, want api.Class) {
	t.Helper()
	if got, ok := retain.Find(l, name); !ok || got != want {
		t.Errorf("%s: Find(%s) of %d classes: got %s, %d, %v, want %s, %d", what, short(name), len(l), short(got.Name), got.Keep, ok, short(want.Name), want.Keep)
	}
}

// findsNone fails the test unless Find answers nothing.
func findsNone(t *testing.T, what string, l []api.Class, name string) {
	t.Helper()
	if got, ok := retain.Find(l, name); ok || got != (api.Class{}) {
		t.Errorf("%s: Find(%s) of %d classes: got %s, %d, %v", what, short(name), len(l), short(got.Name), got.Keep, ok)
	}
}

func TestFindOrdinary(t *testing.T) {
	finds(t, "the first one", two(), "a", class("a", 10))
	finds(t, "the last one", two(), "legal", class("legal", 1<<62))
	l := named(100)
	for _, c := range l {
		finds(t, "each one", l, c.Name, c)
		findsNone(t, "ahead of it", l[:c.Keep-1], c.Name)
	}
}

func TestFindNone(t *testing.T) {
	for _, s := range append([]string{"", "b", "A", "Legal", "LEGAL", "legal ", " legal", "lega", "legall", "aa", "10", "a\x00", small}, strange...) {
		findsNone(t, "no such name", two(), s)
		findsNone(t, "no classes", nil, s)
	}
	findsNone(t, "no classes", nil, "a")
	findsNone(t, "no name of no classes", []api.Class{}, "")
	findsNone(t, "no name", named(100), "")
}

func TestFindOfTwoAlike(t *testing.T) {
	finds(t, "next to each other", []api.Class{class("b", 1), class("a", 2), class("a", 3), class("c", 4)}, "a", class("a", 2))
	finds(t, "far from each other", []api.Class{class("a", 5), class("b", 1), class("a", 3)}, "a", class("a", 5))
	finds(t, "the first is kept less long", []api.Class{class("a", -1), class("a", end)}, "a", class("a", -1))
	l := slices.Repeat(named(50), 2)
	for i := range 50 {
		l[50+i].Keep = 0
		finds(t, "each twice", l, l[i].Name, l[i])
	}
}

// What Check refuses is found by its name all the same.
func TestFindOfClassesThatMayNotBe(t *testing.T) {
	for _, s := range append([]string{"", "A", "a b", strings.Repeat("a", 21)}, strange...) {
		for _, keep := range []int64{math.MinInt64, -1, 0, 1, end} {
			finds(t, "no name", []api.Class{class("a", 1), class(s, keep), class(s, 7)}, s, class(s, keep))
			findsNone(t, "no name, another asked", []api.Class{class(s, keep)}, s+"a")
		}
	}
	l := append(named(200), class("last", 9))
	finds(t, "too many", l, "last", class("last", 9))
}

// P13.3

// chooses fails the test unless Choose answers that name of a message from that sender to those recipients.
func chooses(t *testing.T, what string, l []api.Class, rules []api.Rule, from string, to []string, want string) {
	t.Helper()
	if got := retain.Choose(l, rules, api.Envelope{From: from, To: to, At: 5}); got != want {
		t.Errorf("%s: Choose of %d classes, %d rules, from %s to %d: got %s, want %s", what, len(l), len(rules), short(from), len(to), short(got), short(want))
	}
}

// three are classes for rules that are told apart by them; the first one is that of no rule.
func three() []api.Class {
	return []api.Class{class("none", 1), class("x", 2), class("y", 3), class("z", 4)}
}

// threeRules have a class each that no other one has.
func threeRules() []api.Rule {
	return []api.Rule{rule("x.org", "x"), rule("y.org", "y"), rule("z.org", "z")}
}

func TestChooseOrdinary(t *testing.T) {
	chooses(t, "of the first rule", three(), threeRules(), "a@x.org", []string{"b@q"}, "x")
	chooses(t, "of the second rule", three(), threeRules(), "a@y.org", []string{"b@q"}, "y")
	chooses(t, "of the last rule", three(), threeRules(), "a@z.org", []string{"b@q"}, "z")
	chooses(t, "of a recipient", three(), threeRules(), "a@q", []string{"b@y.org"}, "y")
	chooses(t, "of both", three(), threeRules(), "a@z.org", []string{"b@z.org"}, "z")
}

func TestChooseTheFirstRuleThatFits(t *testing.T) {
	chooses(t, "by rules, not sender ahead of recipients", three(), threeRules(), "a@z.org", []string{"b@y.org"}, "y")
	chooses(t, "by rules, not recipients ahead of sender", three(), threeRules(), "a@y.org", []string{"b@z.org"}, "y")
	chooses(t, "by rules, not in the order of recipients", three(), threeRules(), "a@q", []string{"c@z.org", "d@y.org", "e@q"}, "y")
	chooses(t, "by rules, not in the order of classes", three(), []api.Rule{rule("z.org", "z"), rule("y.org", "y"), rule("x.org", "x")}, "a@x.org", []string{"c@y.org", "d@z.org"}, "z")
	chooses(t, "of one domain the first", three(), []api.Rule{rule("q.org", "z"), rule("x.org", "y"), rule("x.org", "x")}, "a@x.org", nil, "y")
	chooses(t, "alike", three(), []api.Rule{rule("x.org", "y"), rule("x.org", "y")}, "a@x.org", nil, "y")
	chooses(t, "the first class by a rule", three(), []api.Rule{rule("x.org", "none"), rule("x.org", "y")}, "a@x.org", nil, "none")
	l := named(100)
	rules := domains(100, l)
	for i := range rules {
		chooses(t, "each rule", l, rules, "a@"+rules[i].Domain, []string{"b@q", "c@" + rules[99].Domain}, rules[i].Class)
	}
}

func TestChooseOfTheSenderAlone(t *testing.T) {
	chooses(t, "others receive", three(), threeRules(), "a@y.org", []string{"b@q", "c@q.org"}, "y")
	chooses(t, "nobody receives", three(), threeRules(), "a@y.org", nil, "y")
	chooses(t, "nobody receives", three(), threeRules(), "a@y.org", []string{}, "y")
}

func TestChooseOfARecipientAlone(t *testing.T) {
	for n := 1; n <= 120; n++ {
		for _, i := range []int{0, n / 2, n - 1} {
			to := slices.Repeat([]string{"b@q"}, n)
			chooses(t, "of none of them", three(), threeRules(), "a@q", to, "none")
			to[i] = "c@y.org"
			chooses(t, "of one of them", three(), threeRules(), "a@q", to, "y")
			chooses(t, "of one of them, nobody sends", three(), threeRules(), "", to, "y")
		}
	}
	chooses(t, "of many", three(), threeRules(), "a@q", append(slices.Repeat([]string{"b@q"}, 1<<16), "c@z.org"), "z")
}

func TestChooseOfLargeLetters(t *testing.T) {
	for _, s := range []string{"a@Y.org", "a@y.ORG", "A@Y.ORG", "A@y.org", "a@y.oRg"} {
		chooses(t, "the sender's", three(), threeRules(), s, []string{"b@q"}, "y")
		chooses(t, "a recipient's", three(), threeRules(), "a@q", []string{"b@q", s}, "y")
	}
	for _, c := range each(small) {
		rules := []api.Rule{rule("x.org", "x"), rule(c+".example", "y")}
		chooses(t, "each letter", three(), rules, "a@"+strings.ToUpper(c)+".Example", nil, "y")
	}
	for _, s := range []string{"a@\u212a.org", "a@K\u0301.org", "a@\uff4b.org", "a@\xcb.org"} {
		chooses(t, "no large letter of a domain", three(), []api.Rule{rule("k.org", "x")}, s, []string{s}, "none")
	}
	// Check refuses such a rule; Choose makes no letter of it small.
	chooses(t, "a rule's", three(), []api.Rule{rule("Y.org", "y")}, "a@Y.org", []string{"b@y.org"}, "none")
	chooses(t, "a rule's ahead of a small one", three(), []api.Rule{rule("Y.org", "y"), rule("y.org", "z")}, "a@Y.org", []string{"b@Y.ORG"}, "z")
}

func TestChooseOfNoAddress(t *testing.T) {
	for _, s := range []string{"", "y.org", "Y.ORG", "<a@y.org>", "a@y.org>", "a@y.org ", "a@ y.org", "a@y.org.", "a@.y.org", "a@mail.y.org", "a@y.org.net", "a@my.org", "a@y.or", "y.org@", "y.org@q", "a@y.org@q", "@", "a@", "a@y_org", "\x00", "a@y.org\x00"} {
		chooses(t, "none fits the sender", three(), threeRules(), s, []string{"b@q"}, "none")
		chooses(t, "none fits a recipient", three(), threeRules(), "a@q", []string{s}, "none")
		chooses(t, "another recipient's fits", three(), threeRules(), s, []string{s, "b@z.org", s}, "z")
	}
	// What stands behind the last @ tells, whether or not it is an address.
	for _, s := range []string{"@y.org", "a@q@y.org", "a b@y.org", "a@x.org@Y.org", "<@y.org", "\"a\"@y.org", "\xff@y.org"} {
		chooses(t, "one fits the sender", three(), threeRules(), s, []string{"b@q"}, "y")
		chooses(t, "one fits a recipient", three(), threeRules(), "", []string{s}, "y")
	}
}

func TestChooseOfNobody(t *testing.T) {
	chooses(t, "nobody sends", three(), threeRules(), "", []string{"b@z.org"}, "z")
	chooses(t, "nobody sends, none fits", three(), threeRules(), "", []string{"b@q"}, "none")
	chooses(t, "nobody sends or receives", three(), threeRules(), "", nil, "none")
	chooses(t, "nobody receives, none fits", three(), threeRules(), "a@q", nil, "none")
}

func TestChooseWithoutRules(t *testing.T) {
	for _, rules := range [][]api.Rule{nil, {}} {
		chooses(t, "none there", three(), rules, "a@x.org", []string{"b@y.org"}, "none")
		chooses(t, "none there", two(), rules, "a@x.org", []string{"b@y.org"}, "a")
		chooses(t, "none there, nobody", two(), rules, "", nil, "a")
		chooses(t, "none there, no classes", nil, rules, "a@x.org", []string{"b@y.org"}, "")
	}
	chooses(t, "the first class twice", []api.Class{class("b", 1), class("a", 1), class("b", 2)}, nil, "a@x.org", nil, "b")
	chooses(t, "the first class, whatever it is", []api.Class{class("", 0), class("a", 1)}, nil, "a@x.org", nil, "")
}

func TestChooseWithoutClasses(t *testing.T) {
	for _, l := range [][]api.Class{nil, {}} {
		chooses(t, "none fits", l, threeRules(), "a@q", []string{"b@q"}, "")
		chooses(t, "nobody", l, threeRules(), "", nil, "")
		chooses(t, "one fits", l, threeRules(), "a@q", []string{"b@y.org"}, "y")
	}
}

// The class is the rule's, though it is none of those there.
func TestChooseOfRulesThatMayNotBe(t *testing.T) {
	chooses(t, "no such class", three(), []api.Rule{rule("x.org", "gone"), rule("x.org", "x")}, "a@x.org", nil, "gone")
	chooses(t, "no class's name", three(), []api.Rule{rule("x.org", ""), rule("x.org", "x")}, "a@x.org", nil, "")
	chooses(t, "no domain", three(), []api.Rule{rule("x_y", "x"), rule("[1.2.3.4]", "y")}, "a@[1.2.3.4]", nil, "y")
	chooses(t, "no domain", three(), []api.Rule{rule("x_y", "x"), rule("[1.2.3.4]", "y")}, "", []string{"a@X_Y"}, "x")
	chooses(t, "nothing as a domain", three(), []api.Rule{rule("", "x")}, "a@q", []string{"b@q"}, "none")
	chooses(t, "nothing as a domain, nobody sends", three(), []api.Rule{rule("", "x")}, "", []string{"b@q"}, "x")
	chooses(t, "nothing as a domain, none is named", three(), []api.Rule{rule("", "x")}, "a@q", []string{"b"}, "x")
	chooses(t, "too many", three(), append(slices.Repeat([]api.Rule{rule("q.org", "x")}, 200), rule("y.org", "y")), "a@y.org", nil, "y")
}

// P13.4

// until fails the test unless Until answers that.
func until(t *testing.T, what string, at, keep, want int64) {
	t.Helper()
	if got := retain.Until(at, keep); got != want {
		t.Errorf("%s: Until(%d, %d): got %d, want %d", what, at, keep, got, want)
	}
}

func TestUntilExample(t *testing.T) {
	until(t, "example", end-4, 10, end)
	until(t, "example", 1<<62+(1<<62-5), 10, end)
}

func TestUntilOrdinary(t *testing.T) {
	until(t, "from the beginning", 0, 1, 1)
	until(t, "from the beginning", 0, 3600, 3600)
	until(t, "later", 5, 10, 15)
	until(t, "later", 1_700_000_000, 31_536_000, 1_731_536_000)
	until(t, "above 32 bits", 1<<32, 1<<33, 3<<32)
	until(t, "at 32 bits", 1<<31-1, 1, 1<<31)
	until(t, "at 32 bits", 1<<32-1, 1, 1<<32)
}

func TestUntilTheEndOfAllTime(t *testing.T) {
	for _, keep := range []int64{0, 1, 2, 10, 1 << 31, 1 << 32, 1 << 62, end - 1, end} {
		last := end - keep
		until(t, "at the end", last, keep, end)
		until(t, "at the end", keep, last, end)
		if last > 0 {
			until(t, "ahead of it", last-1, keep, end-1)
			until(t, "ahead of it", keep, last-1, end-1)
		}
		if keep > 0 {
			until(t, "behind it", last+1, keep, end)
		}
		if last < end {
			until(t, "behind it", keep, last+1, end)
		}
		until(t, "from the end on", end, keep, end)
	}
	until(t, "twice 2^62", 1<<62, 1<<62, end)
	until(t, "twice the greatest", end, end, end)
	until(t, "twice next to it", end-1, end-1, end)
}

func TestUntilOfAtBelow0(t *testing.T) {
	until(t, "below 0", -5, 3, -2)
	until(t, "up to 0", -5, 5, 0)
	until(t, "above 0", -5, 7, 2)
	until(t, "no longer", -5, 0, -5)
	until(t, "the greatest", -5, end, end-5)
	until(t, "the greatest", -1, end, end-1)
	until(t, "the least", math.MinInt64, 0, math.MinInt64)
	until(t, "the least", math.MinInt64, 1, math.MinInt64+1)
	until(t, "the least, the greatest", math.MinInt64, end, -1)
	until(t, "next to the least", math.MinInt64+1, end, 0)
	until(t, "next to the least, and next to the greatest", math.MinInt64+2, end-1, 0)
}

func TestUntilOfKeepBelow0(t *testing.T) {
	for _, at := range []int64{math.MinInt64, math.MinInt64 + 1, -5, -1, 0, 1, 5, 1 << 32, 1 << 62, end - 1, end} {
		for _, keep := range []int64{0, -1, -3, -5, -1 << 32, -1 << 62, -end, math.MinInt64} {
			until(t, "no longer", at, keep, at)
		}
	}
}

// P13.5

// over fails the test unless Over answers that.
func over(t *testing.T, what string, l []api.Class, class string, at, now int64, want bool) {
	t.Helper()
	if got := retain.Over(l, class, at, now); got != want {
		t.Errorf("%s: Over of %d classes, %s, %d, %d: got %v", what, len(l), short(class), at, now, got)
	}
}

// overFrom fails the test unless a message of that class that came at is over from that time on.
func overFrom(t *testing.T, what string, l []api.Class, class string, at, from int64) {
	t.Helper()
	for _, now := range []int64{from, from + 1, from + 2, from + 10, 1 << 62, end - 1, end} {
		if now >= from {
			over(t, what+", at it or behind it", l, class, at, now, true)
		}
	}
	for _, now := range []int64{from - 1, from - 2, from - 10, at - 1, 0, -1, math.MinInt64} {
		if now < from {
			over(t, what+", ahead of it", l, class, at, now, false)
		}
	}
}

func TestOverOrdinary(t *testing.T) {
	overFrom(t, "the first class", two(), "a", 5, 15)
	overFrom(t, "the last class", two(), "legal", 5, 5+1<<62)
	overFrom(t, "kept one second", named(3), "a", 100, 101)
	overFrom(t, "kept two seconds", named(3), "b", 100, 102)
	overFrom(t, "came at 0", named(3), "c", 0, 3)
	overFrom(t, "came ahead of 0", named(3), "c", -5, -2)
	l := named(100)
	for _, c := range l {
		overFrom(t, "each class", l, c.Name, 1000, 1000+c.Keep)
	}
}

func TestOverAtTheEndOfAllTime(t *testing.T) {
	l := []api.Class{class("one", 1), class("ten", 10), class("half", 1<<62), class("ever", end)}
	overFrom(t, "up to the end", l, "ten", end-10, end)
	overFrom(t, "up to one ahead of the end", l, "ten", end-11, end-1)
	overFrom(t, "past the end", l, "ten", end-5, end)
	overFrom(t, "past the end", l, "half", 1<<62, end)
	overFrom(t, "up to one ahead of the end", l, "half", 1<<62-2, end-1)
	overFrom(t, "the greatest", l, "ever", 0, end)
	overFrom(t, "the greatest", l, "ever", 1, end)
	overFrom(t, "the greatest", l, "ever", -1, end-1)
	overFrom(t, "the greatest, of the least", l, "ever", math.MinInt64, -1)
	overFrom(t, "came one ahead of the end", l, "one", end-1, end)
	overFrom(t, "came at the end", l, "one", end, end)
	overFrom(t, "came at the end", l, "ever", end, end)
}

func TestOverOfNoSuchClass(t *testing.T) {
	for _, now := range []int64{math.MinInt64, -1, 0, 4, 5, 6, 1 << 62, end} {
		for _, name := range append([]string{"", "q", "A", "LEGAL", "legal ", "lega"}, strange...) {
			over(t, "none of them", two(), name, 5, now, false)
			over(t, "none of them", two(), name, math.MinInt64, now, false)
			over(t, "no classes", nil, name, 5, now, false)
		}
		over(t, "no classes", nil, "a", 5, now, false)
		over(t, "no classes", []api.Class{}, "a", 5, now, false)
	}
}

func TestOverOfTwoAlike(t *testing.T) {
	overFrom(t, "the first is kept longer", []api.Class{class("b", 1), class("a", 7), class("a", 3)}, "a", 10, 17)
	overFrom(t, "the first is kept less long", []api.Class{class("a", 3), class("b", 1), class("a", 7)}, "a", 10, 13)
}

// Check refuses such a class; Over asks of it what it asks of each one.
func TestOverOfClassesThatMayNotBe(t *testing.T) {
	for _, keep := range []int64{0, -1, -3, -end, math.MinInt64} {
		for _, at := range []int64{math.MinInt64, -5, 0, 5, end} {
			overFrom(t, "kept no longer", []api.Class{class("q", 5), class("a", keep)}, "a", at, at)
		}
	}
	overFrom(t, "no name", []api.Class{class("a", 5), class("", 7)}, "", 10, 17)
	overFrom(t, "too many", append(named(200), class("last", 9)), "last", 10, 19)
}

// P13.6

// times are those at which something ends or begins.
var times = []int64{math.MinInt64, math.MinInt64 + 1, -1 << 62, -100, -11, -10, -9, -2, -1, 0, 1, 2, 3, 9, 10, 11, 100, 1<<62 - 1, 1 << 62, 1<<62 + 1, end - 11, end - 10, end - 2, end - 1, end}

func TestWhatIsOverStaysOver(t *testing.T) {
	l := []api.Class{class("one", 1), class("two", 2), class("ten", 10), class("half", 1<<62), class("long", end-1), class("ever", end)}
	for _, c := range l {
		for _, at := range times {
			was := false
			for _, now := range times {
				is := retain.Over(l, c.Name, at, now)
				if was && !is {
					t.Errorf("%s, %d: it was over ahead of %d, and isn't there", c.Name, at, now)
				}
				was = was || is
			}
			if !was {
				t.Errorf("%s, %d: it isn't over at the end of all time", c.Name, at)
			}
		}
	}
}

func TestNothingIsOverAheadOfAt1(t *testing.T) {
	l := []api.Class{class("one", 1), class("two", 2), class("ten", 10), class("half", 1<<62), class("long", end-1), class("ever", end)}
	checks(t, "what may be", l, nil, true)
	for _, c := range l {
		for _, at := range times[:len(times)-1] {
			for _, now := range append([]int64{at}, times...) {
				if now <= at {
					over(t, "ahead of at + 1", l, c.Name, at, now, false)
				}
			}
			over(t, "of one second at at + 1", l, c.Name, at, at+1, c.Keep == 1 || at == end-1)
		}
	}
}
