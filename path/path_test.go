package path_test

import (
	"strings"
	"testing"

	"scriptorium/path"
)

// lettersAndDigits are the bytes that may stand anywhere in a label and in an atom.
const lettersAndDigits = "abcdefghijklmnopqrstuvwxyzABCDEFGHIJKLMNOPQRSTUVWXYZ0123456789"

// inAtoms are all bytes that may stand in an atom, as the chapter lists them.
const inAtoms = lettersAndDigits + "!#$%&'*+-/=?^_{|}~" + "`"

// strange are texts that another rule of letters, digits and blanks would take for some.
var strange = []string{"é", "É", "ß", "Ω", "д", "\u212a", "\u017f", "\u0130", "\uff41", "\uff11", "\u0663", "\u00b2", "\u00ad", "\u2010", "\u3002", "\u00a0", "\u200b", "\ufeff", "\ufffd", "\U0001d41a", "\xff", "\xc3", "\x80", "\xc0\xae", "\xc1\xa1", "\xed\xa0\x80"}

// points is n bytes with as many points as may be: atoms or labels of one letter, of an even n the last one of two.
func points(n int) string {
	return strings.Repeat("a.", (n-1)/2) + "bc"[n%2:]
}

// domain is n bytes with as few points as may be: labels of 63 bytes, and one of what is left.
func domain(n int) string {
	s := strings.Repeat(strings.Repeat("d", 63)+".", n/64)
	if n%64 > 0 || n == 0 {
		return s + strings.Repeat("e", n%64)
	}
	// A point would stand last: the label ahead of it gives a byte away.
	return s[:n-2] + ".e"
}

// mailbox fails the test unless Mailbox answers that.
func mailbox(t *testing.T, what, s string, want bool) {
	t.Helper()
	if path.Mailbox(s) != want {
		t.Errorf("%s: Mailbox of %d bytes %q: got %v", what, len(s), s, !want)
	}
}

// named fails the test unless Domain answers that of s, and Mailbox the same with s as its domain.
func named(t *testing.T, what, s string, want bool) {
	t.Helper()
	if path.Domain(s) != want {
		t.Errorf("%s: Domain of %d bytes %q: got %v", what, len(s), s, !want)
	}
	mailbox(t, what, "a@"+s, want)
}

// parses fails the test unless Parse finds that address at the beginning of s, and that rest behind it.
func parses(t *testing.T, what, s, addr, rest string) {
	t.Helper()
	gotAddr, gotRest, ok := path.Parse(s)
	if !ok || gotAddr != addr || gotRest != rest {
		t.Errorf("%s: Parse(%q): got %q, %q, %v, want %q, %q", what, s, gotAddr, gotRest, ok, addr, rest)
	}
}

// parsesNone fails the test unless Parse finds nothing at the beginning of s, and answers s itself.
func parsesNone(t *testing.T, what, s string) {
	t.Helper()
	addr, rest, ok := path.Parse(s)
	if ok || addr != "" || rest != s {
		t.Errorf("%s: Parse(%q): got %q, %q, %v", what, s, addr, rest, ok)
	}
}

// P7.1, Mailbox

func TestMailboxOrdinary(t *testing.T) {
	for _, s := range []string{
		"a@b", "a@x", "a.b@x.org", "a.b+c@x-y.org", "Jo.Doe@Example.COM", "0@0", "1.2.3@4.5.6", "a@1.2.3.4", "a@9x.x9",
		"!@a", "-@a", "-a-@a", "--@a", "a-@b", "-.-@a", "`@a", "{|}@a", "a/b=c@d", "~.~@a-b--c", "$%&'*+@x", "postmaster@localhost",
	} {
		mailbox(t, "ordinary", s, true)
	}
}

func TestMailboxExample(t *testing.T) {
	mailbox(t, "example", "a..b@x", false)
	mailbox(t, "example", "a.b@x.org", true)
}

func TestMailboxEmptyParts(t *testing.T) {
	for _, s := range []string{"", "@", "a@", "@b", "@@", ".@b", "a@.", ".@.", "a.b@", "@a.b", "a", "a.b", "b.org", "."} {
		mailbox(t, "a part is missing", s, false)
	}
}

func TestMailboxNumberOfAts(t *testing.T) {
	mailbox(t, "one", "a@b", true)
	for _, s := range []string{"ab", "a.b", "a@b@c", "@a@b", "a@b@", "a@@b", "a@b.c@d", "a@b@c@d", "a.@b@c", "@@@"} {
		mailbox(t, "none or several", s, false)
	}
}

func TestMailboxPoints(t *testing.T) {
	for _, s := range []string{"a.b@x", "a.b.c@x", "a.b.c.d@x", points(63) + "@x", "a@x.y", "a@x.y.z"} {
		mailbox(t, "points between", s, true)
	}
	for _, s := range []string{
		".a@x", "a.@x", "a..b@x", "..a@x", "a..@x", "a...b@x", "a.b..c@x", "..@x", ".a.b@x", "a.b.@x",
		"a@.x", "a@x.", "a@x..y", "a@..x", "a@x..", "a@x...y", "a@x.y..z", "a@..", "a@.x.y", "a@x.y.",
	} {
		mailbox(t, "a point too many", s, false)
	}
}

func TestMailboxLengthAheadOfTheAt(t *testing.T) {
	for n := range 70 {
		want := n >= 1 && n <= 64
		mailbox(t, "one atom", strings.Repeat("a", n)+"@b", want)
		mailbox(t, "one atom of signs", strings.Repeat("~", n)+"@b", want)
		mailbox(t, "with the longest domain", strings.Repeat("a", n)+"@"+domain(255), want)
		if n > 0 {
			mailbox(t, "atoms of one letter", points(n)+"@b", want)
		}
		// The bound of a label is none of an atom.
		mailbox(t, "two atoms", strings.Repeat("a", n)+".b@c", n >= 1 && n <= 62)
		mailbox(t, "two atoms", "b."+strings.Repeat("a", n)+"@c", n >= 1 && n <= 62)
	}
	for _, n := range []int{128, 255, 256, 320, 321, 1000, 65536, 1 << 20} {
		mailbox(t, "far too long", strings.Repeat("a", n)+"@b", false)
	}
}

func TestMailboxEachByteOfAnAtom(t *testing.T) {
	for c := range 256 {
		s := string([]byte{byte(c)})
		want := strings.Contains(inAtoms, s)
		for _, x := range []struct{ ahead, behind string }{
			{"", ""}, {"", "a"}, {"a", ""}, {"", ".a"}, {"a.", ""}, {"a.", ".a"}, {"a.b", ""}, {"", "b.c"}, {strings.Repeat("a", 63), ""}, {"", strings.Repeat("a", 63)},
		} {
			mailbox(t, "each byte", x.ahead+s+x.behind+"@x.org", want)
		}
		mailbox(t, "each byte, between two", "a"+s+"b@x.org", want || s == ".")
		mailbox(t, "each byte, between two of an atom", "a.b"+s+"c.d@x.org", want || s == ".")
		mailbox(t, "each byte, again and again", strings.Repeat(s, 64)+"@x.org", want)
		mailbox(t, "each byte, too often", strings.Repeat(s, 65)+"@x.org", false)
	}
	mailbox(t, "half of them", inAtoms[:len(inAtoms)/2]+"@x", true)
	mailbox(t, "the others", inAtoms[len(inAtoms)/2:]+"@x", true)
}

func TestMailboxEachByteBetween(t *testing.T) {
	for c := range 256 {
		mailbox(t, "instead of the at", "a"+string([]byte{byte(c)})+"b", c == '@')
		mailbox(t, "ahead of all", string([]byte{byte(c)})+"a@b", strings.IndexByte(inAtoms, byte(c)) >= 0)
		mailbox(t, "behind all", "a@b"+string([]byte{byte(c)}), strings.IndexByte(lettersAndDigits, byte(c)) >= 0)
	}
}

// What the standard has, and this program doesn't.
func TestMailboxOfOtherKinds(t *testing.T) {
	for _, s := range []string{
		`"a b"@x`, `"a"@x`, `""@x`, `a."b".c@x`, `a\@b@x`, "@x:a@b", "@x,@y:a@b", "a@[1.2.3.4]", "a@[IPv6:::1]", "<a@b>", "<>", "A <a@b>",
		"a@b(c)", "(c)a@b", "a @b", "a@ b", " a@b", "a@b ", "a@b\r\n", "a\x00@b", "a@b\x00", "a@b,c@d", "a@b;", "a:b@c", "mailto:a@b",
	} {
		mailbox(t, "another kind", s, false)
	}
}

func TestStrangeLetters(t *testing.T) {
	for _, s := range strange {
		mailbox(t, "strange", s+"@x", false)
		mailbox(t, "strange", "a"+s+"b@x", false)
		mailbox(t, "strange", "a"+s+"x", false)
		for _, d := range []string{s, "a" + s, s + "a", "a" + s + "b", "a." + s, s + ".a", "a." + s + ".b"} {
			named(t, "strange", d, false)
		}
	}
}

// P7.1, Domain

func TestDomainOrdinary(t *testing.T) {
	for _, s := range []string{"a", "Z", "0", "ab", "a-b", "a--b", "a-b-c", "x.org", "X.Org", "mail.x-y.example", "1.2.3.4", "0.a", "9-9.9", "a.b.c.d.e.f.g", "localhost", "xn--a-b.xn--c"} {
		named(t, "ordinary", s, true)
	}
}

func TestDomainPoints(t *testing.T) {
	for _, s := range []string{"", ".", "..", ".a", "a.", "a..b", "..a", "a..", "a...b", ".a.b", "a.b.", "a.b..c", ".a."} {
		named(t, "a point too many", s, false)
	}
}

func TestDomainHyphens(t *testing.T) {
	for _, s := range []string{"-", "--", "---", "-a", "a-", "-a-", "--a", "a--", "a.-", "-.a", "a.-b", "a-.b", "a.b-", "-a.b", "a.-.b", "a.-b.c", "a.b-.c", "a-.-b", strings.Repeat("-", 63), "-" + domain(62), domain(62) + "-"} {
		named(t, "a hyphen at an end", s, false)
	}
	for _, s := range []string{"a-b", "a-b.c-d", "a" + strings.Repeat("-", 61) + "b", "0-0", "a.b-c.d"} {
		named(t, "a hyphen between", s, true)
	}
}

func TestDomainEachByte(t *testing.T) {
	for c := range 256 {
		s := string([]byte{byte(c)})
		plain := strings.Contains(lettersAndDigits, s)
		for _, x := range []struct{ ahead, behind string }{
			{"", ""}, {"", "a"}, {"a", ""}, {"", ".a"}, {"a.", ""}, {"a.", ".a"}, {"", "b.a"}, {"a.b", ""}, {"a.", "b.c"}, {"a.b", ".c"}, {domain(62), ""}, {"", domain(62)},
		} {
			named(t, "each byte", x.ahead+s+x.behind, plain)
		}
		named(t, "each byte, between two", "a"+s+"b", plain || s == "-" || s == ".")
		named(t, "each byte, between two of a label", "x.a"+s+"b.y", plain || s == "-" || s == ".")
		named(t, "each byte, again and again", strings.Repeat(s, 63), plain)
		named(t, "each byte, again and again between two", "a"+strings.Repeat(s, 61)+"b", plain || s == "-")
	}
}

func TestDomainLength(t *testing.T) {
	for n := range 300 {
		want := n >= 1 && n <= 255
		if got := len(domain(n)); got != n {
			t.Fatalf("the test's own: %d bytes for %d", got, n)
		}
		named(t, "long labels", domain(n), want)
		mailbox(t, "behind the longest", strings.Repeat("a", 64)+"@"+domain(n), want)
		mailbox(t, "behind one too long", strings.Repeat("a", 65)+"@"+domain(n), false)
		if n > 0 {
			named(t, "short labels", points(n), want)
		}
	}
	for _, n := range []int{319, 320, 1000, 65536, 1 << 20} {
		named(t, "far too long", domain(n), false)
		named(t, "far too long", points(n), false)
	}
}

func TestDomainLengthOfALabel(t *testing.T) {
	for _, n := range []int{0, 1, 2, 62, 63, 64, 65, 127, 200, 255} {
		want := n >= 1 && n <= 63
		for _, s := range []string{strings.Repeat("a", n), strings.Repeat("0", n)} {
			named(t, "alone", s, want)
			named(t, "the first", s+".b", want)
			named(t, "the last", "b."+s, want)
			named(t, "in the midst", "b."+s+".c", want)
		}
		if n > 2 {
			named(t, "with hyphens", "x.a"+strings.Repeat("-", n-2)+"b.y", want)
		}
	}
}

func TestDomainOfOtherKinds(t *testing.T) {
	for _, s := range []string{"a@b", "@", "@a", "a@", "a b", " a", "a ", "a_b", "_a", "*.a", "a:25", "[1.2.3.4]", "a/b", "a\r\n", "\x00", "a\x00", "<a>", "a+b"} {
		named(t, "another kind", s, false)
	}
}

// P7.2

func TestParseExample(t *testing.T) {
	parses(t, "example", "<a.b@x.org> SIZE=5", "a.b@x.org", " SIZE=5")
}

// rests are texts that may stand behind the `>`.
var rests = []string{"", " ", " SIZE=5", "x", ">", ">>", "<", "<>", "<a@b>", "c@d>", "@", ".", "-", "\r\n", "\x00", "\xff", "é", strings.Repeat("x", 1000)}

func TestParseFinds(t *testing.T) {
	for _, addr := range []string{"", "a@b", "a.b+c@x-y.org", "A@B", "{|}@1.2", strings.Repeat("a", 64) + "@" + domain(255)} {
		for _, rest := range rests {
			parses(t, "ordinary", "<"+addr+">"+rest, addr, rest)
		}
	}
}

func TestParseEachByteBehind(t *testing.T) {
	for c := range 256 {
		s := string([]byte{byte(c)})
		parses(t, "behind a mailbox", "<a@b>"+s, "a@b", s)
		parses(t, "behind nothing", "<>"+s, "", s)
	}
}

func TestParseWithoutItsEnds(t *testing.T) {
	for _, s := range []string{"", "<", ">", "a", "a@b", "<a@b", "a@b>", "<a@b x", "x <a@b>", " <a@b>", " <>", "a<>", "><", "><a@b>", ">a@b<", "<<", "\x00<>", "<\x00"} {
		parsesNone(t, "an end is missing", s)
	}
	for c := range 256 {
		s := string([]byte{byte(c)})
		if s != "<" {
			parsesNone(t, "instead of the first", s+"a@b>")
			parsesNone(t, "instead of the first", s+">")
		}
		if s != ">" {
			parsesNone(t, "instead of the last", "<a@b"+s)
			parsesNone(t, "instead of the last", "<"+s)
		}
		parsesNone(t, "ahead of the first", s+"<a@b>")
		parsesNone(t, "ahead of the first", s+"<>")
	}
}

func TestParseOfNoMailbox(t *testing.T) {
	for _, inner := range []string{
		" ", "a", "@", "a@", "@b", ".", "a..b@x", ".a@b", "a.@b", "a@-b", "a@b-", "a@b_c", "a b@c", "a@b@c", " a@b", "a@b ", "\ta@b", "a@b\r\n", "<a@b", "<",
		"@x:a@b", `"a"@b`, "a@[1.2.3.4]", "a@b,c@d", "A <a@b", "é@b", "a@é", "\x00", "\xff", strings.Repeat("a", 65) + "@b", "a@" + domain(256), "a@" + strings.Repeat("b", 64),
	} {
		for _, rest := range rests {
			parsesNone(t, "no mailbox", "<"+inner+">"+rest)
		}
	}
}

func TestParseEachByteWithin(t *testing.T) {
	for c := range 256 {
		s := string([]byte{byte(c)})
		switch {
		case s == ">":
			parses(t, "the first one counts", "<>>", "", ">")
			parsesNone(t, "the first one counts", "<a>@b>")
		case strings.Contains(inAtoms, s):
			parses(t, "in an atom", "<"+s+"@b>x", s+"@b", "x")
			parsesNone(t, "alone", "<"+s+">")
		default:
			parsesNone(t, "in an atom", "<"+s+"@b>x")
			parsesNone(t, "alone", "<"+s+">")
		}
	}
}

func TestParseUpToTheFirst(t *testing.T) {
	parses(t, "a mailbox, were there one less", "<a@b>c>", "a@b", "c>")
	parses(t, "two", "<a@b><c@d>", "a@b", "<c@d>")
	parses(t, "nothing, and then a mailbox", "<>a@b>", "", "a@b>")
	parsesNone(t, "what stands ahead of it is none", "<a>a@b>")
	parsesNone(t, "twice", "<<a@b>>")
}

// P7.3

func TestShow(t *testing.T) {
	for _, s := range append(append([]string{"", "a@b", "a", "<", ">", "<a@b>", "a@b>", " ", "\x00", "\xff\xfe"}, strange...), rests...) {
		if got := path.Show(s); got != "<"+s+">" {
			t.Errorf("Show(%q): got %q", s, got)
		}
	}
}

// P7.4

func TestOf(t *testing.T) {
	for _, x := range []struct{ addr, ahead, behind string }{
		{"", "", ""},
		{"a@b", "a", "b"},
		{"A.b@X.Org", "A.b", "X.Org"},
		{"a", "a", ""},
		{"x.org", "x.org", ""},
		{"a@", "a", ""},
		{"@b", "", "b"},
		{"@", "", ""},
		{"@@", "@", ""},
		{"@@@", "@@", ""},
		{"a@b@c", "a@b", "c"},
		{"a@b@c@", "a@b@c", ""},
		{"@a@b", "@a", "b"},
		{"<a@b> x", "<a", "b> x"},
		{"\xff@\xfe", "\xff", "\xfe"},
		{"é@\x00@é", "é@\x00", "é"},
		{strings.Repeat("a", 1000) + "@" + strings.Repeat("b", 1000), strings.Repeat("a", 1000), strings.Repeat("b", 1000)},
	} {
		if ahead, behind := path.Of(x.addr); ahead != x.ahead || behind != x.behind {
			t.Errorf("Of(%q): got %q, %q", x.addr, ahead, behind)
		}
	}
}

func TestOfEachByte(t *testing.T) {
	for c := range 256 {
		s := string([]byte{byte(c)})
		ahead, behind := path.Of("ab" + s + "cd")
		if c == '@' && (ahead != "ab" || behind != "cd") || c != '@' && (ahead != "ab"+s+"cd" || behind != "") {
			t.Errorf("byte %d: got %q, %q", c, ahead, behind)
		}
	}
}

// P7.5

// folds fails the test unless Fold answers that, and that again of its answer.
func folds(t *testing.T, what, addr, want string) {
	t.Helper()
	got := path.Fold(addr)
	if got != want || path.Fold(got) != want {
		t.Errorf("%s: Fold(%q): got %q, want %q", what, addr, got, want)
	}
}

func TestFold(t *testing.T) {
	for addr, want := range map[string]string{
		"":              "",
		"a@b":           "a@b",
		"A@B":           "A@b",
		"Jo.Doe@X.Org":  "Jo.Doe@x.org",
		"a@X-Y.0.Z9":    "a@x-y.0.z9",
		"A@":            "A@",
		"@A":            "@a",
		"@":             "@",
		"@@A":           "@@a",
		"A@B@C":         "A@B@c",
		"A@B@":          "A@B@",
		"<A@B> SIZE=5":  "<A@b> size=5",
		"A@B\x00C\xffD": "A@b\x00c\xffd",
	} {
		folds(t, "ordinary", addr, want)
	}
}

// Of an address without an `@` nothing stands behind the last one.
func TestFoldWithoutAnAt(t *testing.T) {
	for _, s := range []string{"A", "ABC", "X.ORG", "Postmaster", "<A>", "\xffA"} {
		folds(t, "without", s, s)
	}
}

func TestFoldEachByte(t *testing.T) {
	const large, small = "ABCDEFGHIJKLMNOPQRSTUVWXYZ", "abcdefghijklmnopqrstuvwxyz"
	for c := range 256 {
		s, want := string([]byte{byte(c)}), string([]byte{byte(c)})
		if i := strings.Index(large, s); i >= 0 {
			want = small[i : i+1]
		}
		folds(t, "behind", "A@"+s, "A@"+want)
		folds(t, "behind, between two", "A@0"+s+"1", "A@0"+want+"1")
		if s != "@" {
			folds(t, "ahead", s+"@B", s+"@b")
			folds(t, "ahead, between two", "0"+s+"1@2", "0"+s+"1@2")
		}
		folds(t, "ahead of another at", s+"@A@b", s+"@A@b")
	}
}

func TestFoldLeavesStrangeLetters(t *testing.T) {
	for _, s := range strange {
		folds(t, "strange", "A"+s+"@B"+s+"C", "A"+s+"@b"+s+"c")
	}
}

func TestFoldLeavesMailboxes(t *testing.T) {
	addr := strings.Repeat("A", 64) + "@" + strings.ToUpper(domain(255))
	folds(t, "the longest", addr, strings.Repeat("A", 64)+"@"+domain(255))
	mailbox(t, "folded", path.Fold(addr), true)
	mailbox(t, "folded", path.Fold("A@B_C"), false)
}
