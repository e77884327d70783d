package head_test

import (
	"bytes"
	"math/rand/v2"
	"regexp"
	"slices"
	"strings"
	"testing"
	"unsafe"

	"scriptorium/api"
	"scriptorium/head"
)

// What a head is, told by patterns: what the calls are held against.
var (
	aName    = regexp.MustCompile(`\A[!-9;-~]{1,100}\z`)
	aField   = regexp.MustCompile(`(?s)\A([!-9;-~]{1,100}):(.*?\r\n(?:[ \t].*?\r\n)*)`)
	aFolded  = regexp.MustCompile(`(?s)\A[ \t].*?\r\n`)
	itsEnds  = regexp.MustCompile(`\A[ \t]+|[ \t]+\z`)
	notShown = regexp.MustCompile(`[\r\n]|\A[ \t]|[ \t]\z`)
)

// parsed is what the chapter says of Parse, over again: a field is taken whole, with its folded lines, and then the next one.
func parsed(s string) ([]api.Field, int, api.Errno) {
	if aFolded.MatchString(s) {
		return nil, 0, api.ErrHead
	}
	var l []api.Field
	size := 0
	for m := aField.FindStringSubmatch(s); m != nil; m = aField.FindStringSubmatch(s[size:]) {
		l = append(l, api.Field{Name: m[1], Body: itsEnds.ReplaceAllString(strings.ReplaceAll(m[2], "\r\n", ""), "")})
		size += len(m[0])
	}
	if strings.HasPrefix(s[size:], "\r\n") {
		size += 2
	}
	if len(l) > 1000 || size > 100_000 {
		return nil, 0, api.ErrLong
	}
	return l, size, api.OK
}

// shown is what the chapter says of Show, over again.
func shown(l []api.Field) (string, api.Errno) {
	for _, f := range l {
		if !aName.MatchString(f.Name) || notShown.MatchString(f.Body) {
			return "", api.ErrHead
		}
	}
	s := laid(l) + "\r\n"
	if len(l) > 1000 || len(s) > 100_000 {
		return "", api.ErrLong
	}
	return s, api.OK
}

// holds fails the test unless the calls answer of s what the chapter says, and of each other's answers what they must.
func holds(t *testing.T, s string) {
	t.Helper()
	l, size, err := parsed(s)
	if err != api.OK {
		parsesNone(t, "a model", s, err)
		return
	}
	parses(t, "a model", s, size, l...)
	parses(t, "the head alone", s[:size], size, l...)
	want, err := shown(l)
	if err != api.OK {
		showsNone(t, "a model", l, err)
	} else {
		shows(t, "a model", l, want)
		comesBack(t, l, s)
	}
	for _, f := range l {
		n := 0
		for _, g := range l {
			if f.Name == g.Name {
				n++
			}
		}
		if got := head.Count(l, f.Name); got < n {
			t.Errorf("Count(%.200q, %q): got %d of at least %d", l, f.Name, got, n)
		}
	}
}

// draw is n bytes out of those, which look drawn by lot.
func draw(r *rand.Rand, from string, n int) string {
	b := make([]byte, n)
	for i := range b {
		b[i] = from[r.IntN(len(from))]
	}
	return string(b)
}

// drawOf is n of those texts, one behind the other, which look drawn by lot.
func drawOf(r *rand.Rand, from []string, n int) string {
	var s strings.Builder
	for range n {
		s.WriteString(from[r.IntN(len(from))])
	}
	return s.String()
}

// inNames are all bytes that may stand in a name, inBodies those in a body.
var inNames, inBodies = func() (string, string) {
	var names, bodies []byte
	for c := range 256 {
		if c >= 33 && c <= 126 && c != ':' {
			names = append(names, byte(c))
		}
		if c != '\r' && c != '\n' {
			bodies = append(bodies, byte(c))
		}
	}
	return string(names), string(bodies)
}()

// drawn is n fields that Show takes, if they aren't too long.
func drawn(r *rand.Rand, n int) []api.Field {
	var l []api.Field
	for range n {
		body := draw(r, inBodies, r.IntN(30))
		if r.IntN(4) == 0 {
			body = draw(r, " \t:aA", r.IntN(10))
		}
		l = append(l, api.Field{Name: draw(r, inNames, 1+r.IntN(100)), Body: strings.Trim(body, " \t")})
	}
	return l
}

// P8.6

// behinds are texts that may stand behind a head.
var behinds = []string{
	"", "\r\n", "\r\n\r\n", "\r", "\n", " ", "\t", " x\r\n", "\tx\r\n", " \r\n", "\t\r\n", "A: x\r\n", "A: x\r\n\r\n", "A: x", ":", "x\r\n", ": x\r\n", "Hi\r\n\r\nthere\r\n", "\x00\xff", "é",
	strings.Repeat("A: x\r\n", 1001), strings.Repeat(" x\r\n", 2000), strings.Repeat("x", 100_001), strings.Repeat("\r\n", 1000),
}

// comesBack fails the test unless Parse of Show of l, with that text behind it, is the fields and their length.
func comesBack(t *testing.T, l []api.Field, behind string) {
	t.Helper()
	b, err := head.Show(l)
	if err != api.OK || len(b) < 2 {
		t.Errorf("Show of %d fields %.200q: got %d bytes, %d", len(l), l, len(b), err)
	}
	parses(t, "back", string(b)+behind, len(b), l...)
}

func TestBack(t *testing.T) {
	longest := []api.Field{{Name: strings.Repeat("n", 100), Body: strings.Repeat("x", 100_000-106)}}
	full := append(slices.Repeat(one("B", strings.Repeat("y", 94)), 999), one("A", strings.Repeat("x", 100_000-999*100-7))...)
	for _, l := range [][]api.Field{
		nil, {}, one("A", ""), one("A", "x"), one("From", "a@b"), one("A", ":"), one("A", ": x"), one(strings.Repeat("~", 100), "\x00\xff"),
		{{Name: "To", Body: "a"}, {Name: "to", Body: ""}, {Name: "To", Body: "a"}}, {{Name: "a", Body: ""}, {Name: "b", Body: ""}}, many(999), many(1000), longest, full,
	} {
		for _, behind := range behinds {
			comesBack(t, l, behind)
		}
		comesBack(t, l, laid(l))
		comesBack(t, l, " "+laid(l)+"\r\n")
	}
}

func TestBackOfEachByte(t *testing.T) {
	for _, c := range strings.Split(inNames, "") {
		for _, name := range []string{c, c + "a", "a" + c, c + c} {
			comesBack(t, one(name, "x"), c)
		}
	}
	for i := range len(inBodies) {
		c := inBodies[i : i+1]
		comesBack(t, one("A", "x"+c+"y"), c)
		comesBack(t, one("A", strings.Trim(c, " \t")), c+"\r\n")
		comesBack(t, append(one("A", "x"+c+c+"y"), one("B", "z"+c+"z")...), c+": x\r\n")
	}
	for c := range 256 {
		comesBack(t, one("A", "x"), string([]byte{byte(c)}))
		comesBack(t, one("A", "x"), string([]byte{byte(c)})+"B: y\r\n\r\n")
	}
}

func TestBackOfManyFields(t *testing.T) {
	r := rand.New(rand.NewPCG(8, 6))
	for n := range 400 {
		l := drawn(r, n%50)
		comesBack(t, l, "")
		comesBack(t, l, draw(r, " \t\r\n:aA\x00", r.IntN(20)))
		comesBack(t, l, drawOf(r, behinds, r.IntN(3)))
		b, _ := head.Show(l)
		back, _, _ := head.Parse(b)
		shows(t, "there and back and there", back, string(b))
	}
}

// The rules of all layers

// pieces are what heads are put together from.
var pieces = []string{
	"A", ":", " ", "\t", "\r\n", "\r", "\n", "x", "A:", "A: x", "B: y\r\n", "a:\r\n", " z\r\n", "\tz\r\n", " \r\n", "\t \r\n", "\r\n\r\n", "plain\r\n", "From a@b\r\n", "é", "\x00", "\xff",
	"A :x\r\n", ":x\r\n", strings.Repeat("n", 99), strings.Repeat("n", 100) + ":", strings.Repeat("n", 101) + ":x\r\n", "A: " + strings.Repeat("x ", 50) + "\r\n", "\n x", "\r\r\n",
}

// P1: any bytes.
func TestAnyBytes(t *testing.T) {
	r := rand.New(rand.NewPCG(8, 1))
	for _, from := range []string{"A: \t\r\n", "A:\r\n", "a :x\r\n", "Ab\r\n \x00\xff:", inNames + ":\r\n", inBodies + "\r\n"} {
		for range 3000 {
			holds(t, draw(r, from, r.IntN(20)))
		}
		for range 30 {
			holds(t, draw(r, from, 100+r.IntN(2000)))
		}
	}
	for range 20_000 {
		holds(t, drawOf(r, pieces, 1+r.IntN(8)))
	}
	for range 1000 {
		holds(t, "A: x\r\n"+drawOf(r, pieces, 1+r.IntN(60)))
		holds(t, laid(drawn(r, r.IntN(5)))+drawOf(r, pieces, r.IntN(8)))
	}
	for range 20 {
		holds(t, drawOf(r, pieces[10:16], 900+r.IntN(2500)))
	}
}

// Each text of up to six of those by which a head is told.
func TestAllShortTexts(t *testing.T) {
	texts := []string{""}
	for range 7 {
		var longer []string
		for _, s := range texts {
			holds(t, s)
			for _, c := range []string{"A", ":", " ", "\t", "\r\n", "\r", "\n"} {
				longer = append(longer, s+c)
			}
		}
		texts = longer
	}
}

func TestAnyFields(t *testing.T) {
	r := rand.New(rand.NewPCG(8, 2))
	for n := range 4000 {
		l := drawn(r, n%4)
		if n%2 == 0 {
			l = append(l, api.Field{Name: draw(r, "aA: \t\r\n\x7f", r.IntN(4)), Body: draw(r, "a \t\r\n", r.IntN(4))})
			l = append(l, drawn(r, r.IntN(3))...)
		}
		if want, err := shown(l); err != api.OK {
			showsNone(t, "a model", l, err)
		} else {
			shows(t, "a model", l, want)
		}
	}
}

func TestLongTexts(t *testing.T) {
	const n = 1 << 20
	for _, c := range []string{"a", ":", " ", "\t", "\r", "\n", "\r\n", "\n\r", "a:", "a:\r\n", " \r\n", "\t\r\n", "a:x\r\n y\r\n", "\x00", "\xff", "a:\r"} {
		s := strings.Repeat(c, n/len(c))
		holds(t, s)
		holds(t, "A: x\r\n"+s)
		holds(t, "A: x\r\n\r\n"+s)
		holds(t, s+"\r\n")
		if head.Name(s) {
			t.Errorf("%d times %q is a name", n, c)
		}
		asks(t, "long", one("A", "x"), s, "", 0)
		asks(t, "long", one(s, "x"), s, "x", 1)
		if body, ok := head.Get(one("A", s), "a"); !ok || body != s {
			t.Errorf("Get of %d times %q: got %d bytes, %v", n, c, len(body), ok)
		}
	}
}

func FuzzAnyBytes(f *testing.F) {
	for _, s := range append(slices.Clone(pieces), "A: x\r\n y\r\n\r\nz", "A: x\r\n\ty \r\nb:\r\n\r\nbody", " x\r\n", "A: x\r\nplain\r\n") {
		f.Add(s)
	}
	f.Fuzz(holds)
}

// P2

// overlap is whether two texts share memory.
func overlap(a, b string) bool {
	if a == "" || b == "" {
		return false
	}
	x, y := uintptr(unsafe.Pointer(unsafe.StringData(a))), uintptr(unsafe.Pointer(unsafe.StringData(b)))
	return x < y+uintptr(len(b)) && y < x+uintptr(len(a))
}

// sample is a head with each kind of line, and what follows it.
const sample = "From: a@b.org\r\nTo: \t c@d.org,\r\n e@f.org\r\n\tg@h.org \r\nEmpty:\r\nFolded:\r\n \r\n  twice\r\n\r\nA: text: of lines\r\n  and more\r\n"

// samples are the fields of sample.
func samples() []api.Field {
	return []api.Field{{Name: "From", Body: "a@b.org"}, {Name: "To", Body: "c@d.org, e@f.org\tg@h.org"}, {Name: "Empty", Body: ""}, {Name: "Folded", Body: "twice"}}
}

// sizeOfSample is how many bytes of it are its head.
var sizeOfSample = strings.Index(sample, "A: ")

func TestParseLeavesItsBytes(t *testing.T) {
	for _, s := range []string{sample, " x\r\n" + sample, strings.Repeat(sample[:sizeOfSample-2], 300), "A: x\r\n" + sample, "A: x\r\n" + strings.Repeat(" y\r\n", 1000) + "B: z\r\n", "A:\r\n \r\n\t\r\nB: z\r\n"} {
		whole := []byte(s + "behind all")
		head.Parse(whole[:len(s)])
		if string(whole) != s+"behind all" {
			t.Errorf("Parse has changed %s to %s", short(s), short(string(whole)))
		}
	}
}

// What was answered stays, whatever becomes of the memory in which the argument stood.
func TestParseSharesNothing(t *testing.T) {
	b := []byte(sample)
	l, n, err := head.Parse(b)
	again, _, _ := head.Parse(b)
	for i := range b {
		b[i] = '#'
	}
	if err != api.OK || n != sizeOfSample || !slices.Equal(l, samples()) {
		t.Fatalf("got %q, %d, %d", l, n, err)
	}
	var texts []string
	for _, f := range append(slices.Clone(l), again...) {
		texts = append(texts, f.Name, f.Body)
	}
	for i, a := range texts {
		for _, b := range texts[:i] {
			if overlap(a, b) {
				t.Errorf("%q and %q share memory", a, b)
			}
		}
	}
	clear(l)
	if !slices.Equal(again, samples()) {
		t.Errorf("two answers share memory: got %q", again)
	}
	if grown := append(again[:2], api.Field{Name: "X"}); len(grown) != 3 || l[2] != (api.Field{}) {
		t.Errorf("two answers share memory: got %q", l)
	}
}

// lasting is s in memory of its own, and what takes it away.
func lasting(s string) (string, func()) {
	b := []byte(s + "#")[:len(s)]
	return unsafe.String(&b[:1][0], len(b)), func() {
		for i := range b {
			b[i] = '#'
		}
	}
}

func TestShowSharesNothing(t *testing.T) {
	want := laid(samples()) + "\r\n"
	var l []api.Field
	var take []func()
	for _, f := range samples() {
		name, takeName := lasting(f.Name)
		body, takeBody := lasting(f.Body)
		l, take = append(l, api.Field{Name: name, Body: body}), append(take, takeName, takeBody)
	}
	b, err := head.Show(l)
	again, _ := head.Show(l)
	if err != api.OK || !slices.Equal(l, samples()) {
		t.Errorf("Show has changed its list to %q, or answers %d", l, err)
	}
	for _, do := range take {
		do()
	}
	if string(b) != want {
		t.Errorf("shares memory with its list: got %q", b)
	}
	clear(b)
	clear(b[:cap(b)])
	if string(again) != want {
		t.Errorf("two answers share memory: got %q", again)
	}
	// Of no fields, too: what is answered then must not be kept either.
	none, _ := head.Show(nil)
	clear(none)
	shows(t, "behind another", nil, "\r\n")
}

func TestGetSharesNothing(t *testing.T) {
	body, take := lasting("a body that is long enough")
	name, takeName := lasting("Name")
	l := []api.Field{{Name: name, Body: body}}
	got, ok := head.Get(l, name)
	again, _ := head.Get(l, name)
	if overlap(got, body) || overlap(got, again) || overlap(got, name) {
		t.Errorf("Get shares memory")
	}
	take()
	takeName()
	if !ok || got != "a body that is long enough" || again != got {
		t.Errorf("Get shares memory with its list: got %q, %q, %v", got, again, ok)
	}
}

// What lies behind a list's length is no part of it, though it would make another head of it.
func TestWhatLiesBehindIsNotRead(t *testing.T) {
	for n := range len(sample) + 1 {
		alone := bytes.Clone([]byte(sample[:n]))
		l, size, err := head.Parse(alone[:n:n])
		got, gotSize, gotErr := head.Parse([]byte(sample)[:n])
		if !slices.Equal(got, l) || gotSize != size || gotErr != err {
			t.Errorf("%q: got %q, %d, %d, want %q, %d, %d", alone, got, gotSize, gotErr, l, size, err)
		}
		holds(t, sample[:n])
	}
	whole := append(samples(), api.Field{Name: "bad name", Body: " "}, api.Field{Name: "Late", Body: "x"})
	shows(t, "a part of a list", whole[:4], laid(samples())+"\r\n")
	asks(t, "a part of a list", whole[:4], "Late", "", 0)
	asks(t, "a part of a list", whole[:0], "From", "", 0)
	asks(t, "a part of a list", whole[:1], "To", "", 0)
	if want := append(samples(), api.Field{Name: "bad name", Body: " "}, api.Field{Name: "Late", Body: "x"}); !slices.Equal(whole, want) {
		t.Errorf("what lies behind was changed: %q", whole)
	}
}

// P3, P4

// What a call answers doesn't hang on those ahead, nor on their errors.
func TestAnswersHangOnArgumentsAlone(t *testing.T) {
	for _, do := range []func(){
		func() {},
		func() { parsesNone(t, "ahead", " x\r\n"+sample, api.ErrHead) },
		func() { parsesNone(t, "ahead", strings.Repeat("A: x\r\n", 1001), api.ErrLong) },
		func() { parsesNone(t, "ahead", "A: "+strings.Repeat("x", 100_000)+"\r\n", api.ErrLong) },
		func() { showsNone(t, "ahead", append(samples(), one("", "x")...), api.ErrHead) },
		func() { showsNone(t, "ahead", append(samples(), one("A", "x\n")...), api.ErrHead) },
		func() { showsNone(t, "ahead", many(1001), api.ErrLong) },
		func() { showsNone(t, "ahead", one("A", strings.Repeat("x", 100_000)), api.ErrLong) },
		func() { asks(t, "ahead", samples(), "none", "", 0) },
		func() { named(t, "ahead", "a b", false) },
	} {
		for range 2 {
			do()
			parses(t, "behind another call", sample, sizeOfSample, samples()...)
			shows(t, "behind another call", samples(), laid(samples())+"\r\n")
			asks(t, "behind another call", samples(), "TO", "c@d.org, e@f.org\tg@h.org", 1)
			named(t, "behind another call", "From", true)
			parses(t, "behind another call", "", 0)
		}
	}
}
