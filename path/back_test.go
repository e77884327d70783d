package path_test

import (
	"math/rand/v2"
	"regexp"
	"strings"
	"testing"
	"unsafe"

	"scriptorium/path"
)

// What an address is, told by patterns: what the calls are held against. Their lengths are counted beside them.
var (
	ahead  = regexp.MustCompile("\\A[a-zA-Z0-9!#$%&'*+\\-/=?^_{|}~`]+(\\.[a-zA-Z0-9!#$%&'*+\\-/=?^_{|}~`]+)*\\z")
	behind = regexp.MustCompile(`\A[a-zA-Z0-9]([a-zA-Z0-9-]{0,61}[a-zA-Z0-9])?(\.[a-zA-Z0-9]([a-zA-Z0-9-]{0,61}[a-zA-Z0-9])?)*\z`)
)

// toSmall makes small letters of large ones, byte by byte.
var toSmall = strings.NewReplacer(
	"A", "a", "B", "b", "C", "c", "D", "d", "E", "e", "F", "f", "G", "g", "H", "h", "I", "i", "J", "j", "K", "k", "L", "l", "M", "m",
	"N", "n", "O", "o", "P", "p", "Q", "q", "R", "r", "S", "s", "T", "t", "U", "u", "V", "v", "W", "w", "X", "x", "Y", "y", "Z", "z",
)

func isDomain(s string) bool { return len(s) <= 255 && behind.MatchString(s) }

func isMailbox(s string) bool {
	parts := strings.Split(s, "@")
	return len(parts) == 2 && len(parts[0]) <= 64 && ahead.MatchString(parts[0]) && isDomain(parts[1])
}

// parsed is what the chapter says of Parse, over again: each place at which a `>` may stand is tried.
func parsed(s string) (string, string, bool) {
	for i := 1; i < len(s); i++ {
		if addr := s[1:i]; s[0] == '<' && s[i] == '>' && (addr == "" || isMailbox(addr)) {
			return addr, s[i+1:], true
		}
	}
	return "", s, false
}

// cut is what the chapter says of Of, over again, from the beginning on.
func cut(s string) (string, string) {
	parts := strings.Split(s, "@")
	if len(parts) == 1 {
		return s, ""
	}
	last := len(parts) - 1
	return strings.Join(parts[:last], "@"), parts[last]
}

// holds fails the test unless the calls answer of s what the chapter says, and of each other's answers what they must.
func holds(t *testing.T, s string) {
	t.Helper()
	mailbox(t, "a model", s, isMailbox(s))
	if path.Domain(s) != isDomain(s) {
		t.Fatalf("Domain(%q): got %v", s, path.Domain(s))
	}
	for _, text := range []string{s, "<" + s, "<" + s + ">", "<" + s + "> x"} {
		if addr, rest, ok := parsed(text); ok {
			parses(t, "a model", text, addr, rest)
		} else {
			parsesNone(t, "a model", text)
		}
	}
	local, domain := cut(s)
	if l, d := path.Of(s); l != local || d != domain {
		t.Fatalf("Of(%q): got %q, %q", s, l, d)
	}
	want := s
	if strings.Contains(s, "@") {
		want = local + "@" + toSmall.Replace(domain)
	}
	folds(t, "a model", s, want)
	mailbox(t, "folded", want, isMailbox(s))
	if path.Show(s) != "<"+s+">" {
		t.Fatalf("Show(%q): got %q", s, path.Show(s))
	}
}

// draw is n bytes out of those, which look drawn by lot.
func draw(r *rand.Rand, from string, n int) string {
	b := make([]byte, n)
	for i := range b {
		b[i] = from[r.IntN(len(from))]
	}
	return string(b)
}

// mailboxes tells mailboxes that look drawn by lot, the same in each run.
func mailboxes(yield func(string) bool) {
	r := rand.New(rand.NewPCG(7, 7))
	for range 2000 {
		var l, d []string
		for range 1 + r.IntN(3) {
			l = append(l, draw(r, inAtoms, 1+r.IntN(20)))
		}
		for range 1 + r.IntN(4) {
			d = append(d, draw(r, lettersAndDigits, 1)+draw(r, lettersAndDigits+"-", r.IntN(40))+draw(r, lettersAndDigits, 1))
		}
		if !yield(strings.Join(l, ".") + "@" + strings.Join(d, ".")) {
			return
		}
	}
}

// P7.6

// comesBack fails the test unless Parse of Show of addr, with that rest behind it, is both of them again.
func comesBack(t *testing.T, addr, rest string) {
	t.Helper()
	parses(t, "back", path.Show(addr)+rest, addr, rest)
}

func TestBack(t *testing.T) {
	longest := strings.Repeat("a", 64) + "@" + domain(255)
	for _, addr := range []string{"", "a@b", "a.b+c@x-y.org", "A@B", longest, points(63) + "@" + points(255)} {
		for _, rest := range append(append([]string{addr, path.Show(addr)}, rests...), strange...) {
			comesBack(t, addr, rest)
		}
	}
}

func TestBackOfEachByte(t *testing.T) {
	for _, c := range strings.Split(inAtoms, "") {
		comesBack(t, c+"@b", c)
		comesBack(t, "a."+c+"@b", "> "+c)
	}
	for _, c := range strings.Split(lettersAndDigits, "") {
		comesBack(t, "a@"+c, c)
		comesBack(t, "a@b."+c, ">"+c)
	}
}

func TestBackOfManyMailboxes(t *testing.T) {
	r := rand.New(rand.NewPCG(7, 8))
	for addr := range mailboxes {
		mailbox(t, "put together by the rule", addr, true)
		comesBack(t, addr, "")
		comesBack(t, addr, draw(r, "<>@. aB\x00\xff", r.IntN(10)))
		comesBack(t, path.Fold(addr), addr)
		local, domain := path.Of(addr)
		comesBack(t, local+"@"+domain, "x")
	}
}

// The rules of all layers

// P1: any bytes.
func TestAnyBytes(t *testing.T) {
	r := rand.New(rand.NewPCG(7, 9))
	for _, from := range []string{"a.@", "aZ9-.@", "a-.", "<>a@.", "aB@.<> \x00\xff", inAtoms + ".@", "a\xc3\xa9@"} {
		for range 4000 {
			holds(t, draw(r, from, r.IntN(12)))
		}
		for range 50 {
			holds(t, draw(r, from, 50+r.IntN(300)))
		}
	}
	for s := range mailboxes {
		at := r.IntN(len(s))
		holds(t, s)
		holds(t, s[:at])
		holds(t, s[at:])
		holds(t, s[:at]+s[at+1:])
		holds(t, s[:at]+draw(r, ".-@<> \x00\x7f\x80aZ", 1)+s[at:])
		holds(t, s[:at]+s)
	}
}

// Each text of up to seven of those bytes by which an address is told.
func TestAllShortTexts(t *testing.T) {
	texts := []string{""}
	for range 7 {
		var longer []string
		for _, s := range texts {
			mailbox(t, "short", s, isMailbox(s))
			if path.Domain(s) != isDomain(s) {
				t.Fatalf("Domain(%q): got %v", s, path.Domain(s))
			}
			for _, c := range []string{"a", "-", ".", "@", "_"} {
				longer = append(longer, s+c)
			}
		}
		texts = longer
	}
}

func TestLongTexts(t *testing.T) {
	const n = 1 << 22
	for _, c := range []string{"a", ".", "@", "-", "<", ">", "A", "\x00", "\xff", "a.", "a@", "<>"} {
		s := strings.Repeat(c, n/len(c))
		mailbox(t, "long", s[:n], false)
		mailbox(t, "long", s[:n]+"@b", false)
		mailbox(t, "long", "a@"+s[:n], false)
		if path.Domain(s) || path.Show(s) != "<"+s+">" || len(path.Fold(s)) != n {
			t.Errorf("%d times %q", n, c)
		}
		if l, d := path.Of("x@y" + s); strings.Contains(c, "@") && len(l)+len(d) != n+2 || !strings.Contains(c, "@") && (l != "x" || d != "y"+s) {
			t.Errorf("Of %d times %q: got %d, %d bytes", n, c, len(l), len(d))
		}
		parses(t, "long behind", "<a@b>"+s, "a@b", s)
		if c != "<>" {
			parsesNone(t, "long within", "<"+strings.ReplaceAll(s, ">", "<")+"a@b")
		}
	}
}

func FuzzAnyBytes(f *testing.F) {
	for _, s := range append([]string{"", "a@b", "a..b@x", "<a.b@x.org> SIZE=5", "a@b@c", "A@B", strings.Repeat("a", 64) + "@" + domain(255)}, strange...) {
		f.Add(s)
	}
	f.Fuzz(holds)
}

// answers are all texts that the calls answer of s.
func answers(s string) []string {
	addr, rest, _ := path.Parse(s)
	local, domain := path.Of(s)
	return []string{addr, rest, path.Show(s), local, domain, path.Fold(s)}
}

// shared are texts long enough that none of their parts is one that the language keeps for all.
var shared = []string{"<some@mail.box> and more", "<some@mail.box>", "<> and more", "no@address at all", "none at all", "<Some@Mail.Box", "some@mail.box", "SOME@MAIL.BOX", "two@two@two"}

// What was answered stays, whatever becomes of the memory in which the argument stood.
func TestAnswersShareNothingWithArguments(t *testing.T) {
	for _, s := range shared {
		b := []byte(s)
		got := answers(unsafe.String(&b[0], len(b)))
		if string(b) != s {
			t.Errorf("%q was changed: %q", s, b)
		}
		clear(b)
		for i, want := range answers(s) {
			if got[i] != want {
				t.Errorf("%q: answer %d shares memory with it: got %q, want %q", s, i, got[i], want)
			}
		}
	}
}

// overlap is whether two texts share memory.
func overlap(a, b string) bool {
	if a == "" || b == "" {
		return false
	}
	x, y := uintptr(unsafe.Pointer(unsafe.StringData(a))), uintptr(unsafe.Pointer(unsafe.StringData(b)))
	return x < y+uintptr(len(b)) && y < x+uintptr(len(a))
}

func TestAnswersShareNothingWithEachOther(t *testing.T) {
	for _, s := range shared {
		all := append(answers(s), answers(s)...)
		for i, a := range all {
			if overlap(a, s) {
				t.Errorf("%q: answer %d shares memory with it", s, i)
			}
			for j, b := range all[:i] {
				if overlap(a, b) {
					t.Errorf("%q: answers %d and %d share memory", s, i, j)
				}
			}
		}
	}
}

// What lies behind a text's length is no part of it, though it would make an address of it, or none.
func TestWhatLiesBehindIsNotRead(t *testing.T) {
	const whole = "<a@b.org>x@Y"
	for n := range len(whole) + 1 {
		alone := strings.Clone(whole[:n])
		want := answers(alone)
		for i, got := range answers(whole[:n]) {
			if got != want[i] {
				t.Errorf("%q: answer %d: got %q, want %q", alone, i, got, want[i])
			}
		}
		if path.Mailbox(whole[:n]) != path.Mailbox(alone) || path.Domain(whole[:n]) != path.Domain(alone) {
			t.Errorf("%q: Mailbox, Domain", alone)
		}
	}
}

func TestAnswersHangOnArgumentsAlone(t *testing.T) {
	want := answers("<A.b@X.Org>@C")
	for s := range mailboxes {
		answers(s)
		mailbox(t, "in turn", s, true)
		mailbox(t, "in turn", s+"-", false)
		for i, got := range answers("<A.b@X.Org>@C") {
			if got != want[i] {
				t.Fatalf("behind %q: answer %d: got %q, want %q", s, i, got, want[i])
			}
		}
	}
}
