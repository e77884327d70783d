package head_test

import (
	"slices"
	"strconv"
	"strings"
	"testing"

	"scriptorium/api"
	"scriptorium/head"
)

// short is s as a test tells it.
func short(s string) string {
	if len(s) > 200 {
		return strconv.Quote(s[:100]) + " .. " + strconv.Quote(s[len(s)-50:]) + " (" + strconv.Itoa(len(s)) + " bytes)"
	}
	return strconv.Quote(s)
}

// parses fails the test unless Parse finds just these fields in s, in a head of that many bytes.
func parses(t *testing.T, what, s string, size int, want ...api.Field) {
	t.Helper()
	l, n, err := head.Parse([]byte(s))
	if err != api.OK || n != size || !slices.Equal(l, want) {
		t.Errorf("%s: Parse(%s): got %d fields %.200q, %d, %d, want %d fields %.200q, %d", what, short(s), len(l), l, n, err, len(want), want, size)
	}
}

// parsesNone fails the test unless Parse answers that error of s, and nothing beside it.
func parsesNone(t *testing.T, what, s string, want api.Errno) {
	t.Helper()
	l, n, err := head.Parse([]byte(s))
	if err != want || n != 0 || len(l) != 0 {
		t.Errorf("%s: Parse(%s): got %d fields, %d, %d, want error %d", what, short(s), len(l), n, err, want)
	}
}

// shows fails the test unless Show answers that of l.
func shows(t *testing.T, what string, l []api.Field, want string) {
	t.Helper()
	b, err := head.Show(l)
	if err != api.OK || string(b) != want {
		t.Errorf("%s: Show(%.200q): got %s, %d, want %s", what, l, short(string(b)), err, short(want))
	}
}

// showsNone fails the test unless Show answers that error of l, and nothing beside it.
func showsNone(t *testing.T, what string, l []api.Field, want api.Errno) {
	t.Helper()
	b, err := head.Show(l)
	if err != want || len(b) != 0 {
		t.Errorf("%s: Show of %d fields %.200q: got %s, %d, want error %d", what, len(l), l, short(string(b)), err, want)
	}
}

// named fails the test unless Name answers that of s, and Parse and Show hold with it.
func named(t *testing.T, what, s string, want bool) {
	t.Helper()
	if head.Name(s) != want {
		t.Errorf("%s: Name(%s): got %v", what, short(s), !want)
	}
	l := []api.Field{{Name: s, Body: "x"}}
	if want {
		parses(t, what, s+": x\r\n", len(s)+5, l...)
		shows(t, what, l, s+": x\r\n\r\n")
	} else {
		showsNone(t, what, l, api.ErrHead)
	}
}

// asks fails the test unless Get finds that body of that name in l, or none, if there is none; and Count finds so many.
func asks(t *testing.T, what string, l []api.Field, name, body string, count int) {
	t.Helper()
	if got, ok := head.Get(l, name); got != body || ok != (count > 0) {
		t.Errorf("%s: Get(%.200q, %q): got %q, %v, want %q, %v", what, l, name, got, ok, body, count > 0)
	}
	if got := head.Count(l, name); got != count {
		t.Errorf("%s: Count(%.200q, %q): got %d, want %d", what, l, name, got, count)
	}
}

// one is a list of one field.
func one(name, body string) []api.Field { return []api.Field{{Name: name, Body: body}} }

// many is n fields, each with another body.
func many(n int) []api.Field {
	l := make([]api.Field, n)
	for i := range l {
		l[i] = api.Field{Name: "Field", Body: strconv.Itoa(i)}
	}
	return l
}

// laid is the fields as lines, without an empty one behind them.
func laid(l []api.Field) string {
	var s strings.Builder
	for _, f := range l {
		s.WriteString(f.Name + ": " + f.Body + "\r\n")
	}
	return s.String()
}

// P8.1

func TestParseExample(t *testing.T) {
	parses(t, "example", "A: x\r\n y\r\n\r\nz", 12, api.Field{Name: "A", Body: "x y"})
}

func TestParseOrdinary(t *testing.T) {
	from, to := api.Field{Name: "From", Body: "a@b"}, api.Field{Name: "To", Body: "c@d, e@f"}
	parses(t, "one field", "From: a@b\r\n\r\nHi\r\n", 13, from)
	parses(t, "two", "From: a@b\r\nTo: c@d, e@f\r\n\r\nHi\r\n", 27, from, to)
	parses(t, "in their order", "To: c@d, e@f\r\nFrom: a@b\r\nTo: c@d, e@f\r\n\r\n", 41, to, from, to)
	parses(t, "without a blank", "From:a@b\r\n\r\n", 12, from)
	parses(t, "a body with colons", "A: b: c:d\r\n:e: f\r\n", 11, api.Field{Name: "A", Body: "b: c:d"})
	parses(t, "a body of colons", "A:::\r\n\r\n", 8, api.Field{Name: "A", Body: "::"})
	parses(t, "a name of signs", "!\"#$%&'()*+,-./;<=>?@[\\]^_`{|}~: x\r\n\r\n", 38, api.Field{Name: "!\"#$%&'()*+,-./;<=>?@[\\]^_`{|}~", Body: "x"})
	parses(t, "any bytes in a body", "A: \x00\x01é\xff\x7f\x80\r\n\r\n", 14, api.Field{Name: "A", Body: "\x00\x01é\xff\x7f\x80"})
}

func TestParseNothing(t *testing.T) {
	parses(t, "no byte at all", "", 0)
	if l, n, err := head.Parse(nil); len(l) != 0 || n != 0 || err != api.OK {
		t.Errorf("Parse(nil): got %q, %d, %d", l, n, err)
	}
}

func TestParseEmptyLine(t *testing.T) {
	x := api.Field{Name: "A", Body: "x"}
	parses(t, "alone", "\r\n", 2)
	parses(t, "the first line", "\r\nA: x\r\n\r\n", 2)
	parses(t, "two of them", "\r\n\r\n", 2)
	parses(t, "behind a field", "A: x\r\n\r\n", 8, x)
	parses(t, "with a field behind", "A: x\r\n\r\nB: y\r\n\r\n", 8, x)
	parses(t, "with a folded line behind", "A: x\r\n\r\n y\r\n\r\n", 8, x)
	parses(t, "with a folded line behind, the first line", "\r\n y\r\n\r\n", 2)
	parses(t, "with another behind", "A: x\r\n\r\n\r\n", 8, x)
	parses(t, "with half of one behind", "A: x\r\n\r\n\r", 8, x)
	parses(t, "behind a folded line", "A: x\r\n y\r\n\r\nb", 12, api.Field{Name: "A", Body: "x y"})
}

func TestParseEndOfTheBytes(t *testing.T) {
	x := api.Field{Name: "A", Body: "x"}
	parses(t, "behind a field", "A: x\r\n", 6, x)
	parses(t, "behind two", "A: x\r\nA: x\r\n", 12, x, x)
	parses(t, "behind a folded line", "A: x\r\n y\r\n", 10, api.Field{Name: "A", Body: "x y"})
	parses(t, "behind a folded line with nothing in it", "A: x\r\n \r\n", 9, x)
}

// unnamed are lines which neither are folded nor have a name ahead of their first `:`.
var unnamed = []string{
	"x", "plain", "plain text", ":", "::", ": x", ":A: x", "A :", "A : x", "A b: x", "A\t: x", "a b", "A", "x y: z", "\x00: x", "\x7f: x", "A\x7f: x", "A\x1f: x",
	"é: x", "Aé: x", "\xff: x", "A\x80: x", "\r: x", "\n: x", "A\r: x", "A\n: x", "\r", "\n", "\n\n", "\rA: x", "\nA: x", "\n A: x", "x\nA: x", "\v: x", "\f: x", "\u00a0: x",
	"From a@b Thu Jan  1 00:00:00 1970", "From a@b", "http //x:y", strings.Repeat("a", 101) + ": x", strings.Repeat("a", 1000) + ":", strings.Repeat("a", 1000),
}

func TestParseLineWithoutAName(t *testing.T) {
	x := api.Field{Name: "A", Body: "x"}
	for _, line := range unnamed {
		parses(t, "the first line", line+"\r\n", 0)
		parses(t, "the first line, fields behind", line+"\r\nA: x\r\n\r\n", 0)
		parses(t, "the first line, a folded one behind", line+"\r\n x\r\n", 0)
		parses(t, "behind a field", "A: x\r\n"+line+"\r\n", 6, x)
		parses(t, "behind a field, others behind", "A: x\r\n"+line+"\r\nB: y\r\n\r\n", 6, x)
		parses(t, "behind a field, a folded one behind", "A: x\r\n"+line+"\r\n x\r\n", 6, x)
		parses(t, "behind a field, an empty one behind", "A: x\r\n"+line+"\r\n\r\n", 6, x)
		parses(t, "behind a folded line", "A: x\r\n y\r\n"+line+"\r\n", 10, api.Field{Name: "A", Body: "x y"})
		parses(t, "behind an empty line", "A: x\r\n\r\n"+line+"\r\n", 8, x)
		parses(t, "behind an empty line, the first one", "\r\n"+line+"\r\n", 2)
		parses(t, "folded, it is no such line", "A: x\r\n "+line+"\r\n", len(line)+9, api.Field{Name: "A", Body: "x " + strings.TrimRight(line, " \t")})
	}
}

func TestParseLineThatDoesntEnd(t *testing.T) {
	x := api.Field{Name: "A", Body: "x"}
	for _, line := range []string{
		"A: x", "A: x\r", "A: x\n", "A:", "A", ":", "\r", "\n", " ", "\t", " y", "\ty", " y\r", " \r", " \n", "plain", "\n\r", "A: x\n\r", "A: x\n y", "A: x\r y\r", "B: y\n\nC: z\n",
		strings.Repeat("a", 200_000), "A: " + strings.Repeat("a", 200_000), " " + strings.Repeat("a", 200_000), "\t" + strings.Repeat("\r", 200_000),
	} {
		parses(t, "the first line", line, 0)
		parses(t, "behind a field", "A: x\r\n"+line, 6, x)
		parses(t, "behind two", "A: x\r\nA: x\r\n"+line, 12, x, x)
		parses(t, "behind a folded line", "A: x\r\n y\r\n"+line, 10, api.Field{Name: "A", Body: "x y"})
		parses(t, "behind an empty line", "A: x\r\n\r\n"+line, 8, x)
	}
}

// A byte 13 or 10 that isn't both is no end.
func TestParseHalfAnEnd(t *testing.T) {
	parses(t, "a 10", "A: x\ny\r\n\r\n", 10, api.Field{Name: "A", Body: "x\ny"})
	parses(t, "a 13", "A: x\ry\r\n\r\n", 10, api.Field{Name: "A", Body: "x\ry"})
	parses(t, "the other way round", "A: x\n\ry\r\n\r\n", 11, api.Field{Name: "A", Body: "x\n\ry"})
	parses(t, "two 13", "A: x\r\r\n\r\n", 9, api.Field{Name: "A", Body: "x\r"})
	parses(t, "a 10 behind", "A: x\r\n\nB: y\r\n", 6, api.Field{Name: "A", Body: "x"})
	parses(t, "a 10 and what looks like a field", "A: x\nB: y\r\n\r\n", 13, api.Field{Name: "A", Body: "x\nB: y"})
	parses(t, "two 10 and what looks like a text", "A: x\n\nhi\r\n\r\n", 12, api.Field{Name: "A", Body: "x\n\nhi"})
	parses(t, "a 10 and what looks like a folded line", "A: x\n y\r\n\r\n", 11, api.Field{Name: "A", Body: "x\n y"})
	parses(t, "in a folded line", "A: x\r\n y\nz\r\r\n\r\n", 15, api.Field{Name: "A", Body: "x y\nz\r"})
	parses(t, "at the beginning of a body", "A:\n\r x\r\n\r\n", 10, api.Field{Name: "A", Body: "\n\r x"})
}

func TestParseFolded(t *testing.T) {
	for _, x := range []struct{ lines, body string }{
		{"x\r\n y", "x y"}, {"x\r\n\ty", "x\ty"}, {"x\r\n  y", "x  y"}, {"x\r\n \ty", "x \ty"}, {"x\r\n\t y", "x\t y"},
		{"x\r\n y\r\n z", "x y z"}, {"x\r\n y\r\n\tz\r\n w", "x y\tz w"}, {"x\r\n\ty\r\n\tz", "x\ty\tz"},
		{"x \r\n y", "x  y"}, {"x\t\r\n y", "x\t y"}, {"x \r\n y \r\n z", "x  y  z"}, {"x\r\n y ", "x y"}, {"x\r\n y\t \t", "x y"},
		{"\r\n y", "y"}, {"\r\n\ty", "y"}, {" \r\n y", "y"}, {"\r\n  \t y", "y"}, {"\r\n y\r\n z", "y z"}, {"\r\n", ""},
		{"x\r\n B: y", "x B: y"}, {"x\r\n\tB: y\r\n C: z", "x\tB: y C: z"}, {"x\r\n : y", "x : y"}, {"x\r\n :", "x :"},
		{"x\r\n plain", "x plain"}, {"x\r\n \x00\xff", "x \x00\xff"}, {"x\r\n \u00a0", "x \u00a0"},
	} {
		lines := "A: " + strings.TrimSuffix(x.lines, "\r\n") + "\r\n"
		for _, behind := range []string{"", "\r\n", "\r\nz", "\r\n z"} {
			parses(t, "folded", lines+behind, len(lines)+min(len(behind), 2), api.Field{Name: "A", Body: x.body})
		}
		parses(t, "a field behind", lines+"B: z\r\n\r\n", len(lines)+8, api.Field{Name: "A", Body: x.body}, api.Field{Name: "B", Body: "z"})
		parses(t, "a field ahead", "B: z\r\n"+lines+"\r\n", len(lines)+8, api.Field{Name: "B", Body: "z"}, api.Field{Name: "A", Body: x.body})
	}
}

func TestParseFoldedWithNothingInIt(t *testing.T) {
	for _, x := range []struct{ lines, body string }{
		{"x\r\n ", "x"}, {"x\r\n\t", "x"}, {"x\r\n  \t ", "x"}, {"x\r\n \r\n ", "x"}, {"x\r\n \r\n\t\r\n ", "x"},
		{"x\r\n \r\n y", "x  y"}, {"x\r\n\t\r\n y", "x\t y"}, {"x\r\n \r\n\t\r\n y", "x \t y"}, {"x\r\n y\r\n ", "x y"}, {"x\r\n y\r\n \r\n z", "x y  z"},
		{"\r\n ", ""}, {"\r\n\t", ""}, {"\r\n \r\n ", ""}, {" \r\n ", ""}, {"\r\n \r\n y", "y"}, {"\r\n\t\r\n \r\n\ty", "y"},
	} {
		lines := "A:" + x.lines + "\r\n"
		parses(t, "with nothing in it", lines, len(lines), api.Field{Name: "A", Body: x.body})
		parses(t, "with nothing in it, an empty one behind", lines+"\r\n", len(lines)+2, api.Field{Name: "A", Body: x.body})
		parses(t, "with nothing in it, a text behind", lines+"\r\n x\r\n", len(lines)+2, api.Field{Name: "A", Body: x.body})
		parses(t, "with nothing in it, a field behind", lines+"B: z\r\n\r\n", len(lines)+8, api.Field{Name: "A", Body: x.body}, api.Field{Name: "B", Body: "z"})
	}
}

func TestParseManyFolded(t *testing.T) {
	parses(t, "by blanks", "A: x\r\n"+strings.Repeat(" y\r\n", 20_000)+"\r\nz", 80_008, api.Field{Name: "A", Body: "x" + strings.Repeat(" y", 20_000)})
	parses(t, "by tabs, with nothing in them", "A: x\r\n"+strings.Repeat("\t\r\n", 30_000)+" z\r\n", 90_010, api.Field{Name: "A", Body: "x" + strings.Repeat("\t", 30_000) + " z"})
	parses(t, "with nothing in any", "A:\r\n"+strings.Repeat(" \r\n", 33_000), 99_004, api.Field{Name: "A", Body: ""})
}

func TestParseFoldedAtTheBeginning(t *testing.T) {
	for _, line := range []string{" ", "\t", " x", "\tx", "  ", " \t", " A: x", "\tA: x", " :", " \r", " \n", "\t\n\r", " \x00\xff", " " + strings.Repeat("x", 300_000)} {
		for _, behind := range []string{"", "\r\n", "A: x\r\n\r\n", " y\r\n", "x\r\n", "A: x", strings.Repeat("A: x\r\n", 1001), strings.Repeat(" x\r\n", 50_000), strings.Repeat("x", 100_001)} {
			parsesNone(t, "folded at the beginning", line+"\r\n"+behind, api.ErrHead)
		}
	}
}

// What isn't a blank or a tab doesn't fold a line.
func TestParseWhatFolds(t *testing.T) {
	for c := range 256 {
		b := string([]byte{byte(c)})
		if b == " " || b == "\t" {
			parses(t, "it folds", "A: x\r\n"+b+"B: y\r\n", 13, api.Field{Name: "A", Body: "x" + b + "B: y"})
			parsesNone(t, "it folds", b+"B: y\r\n", api.ErrHead)
			continue
		}
		if head.Name(b) {
			parses(t, "it begins a name", "A: x\r\n"+b+"B: y\r\n", 13, api.Field{Name: "A", Body: "x"}, api.Field{Name: b + "B", Body: "y"})
			parses(t, "it begins a name", b+"B: y\r\n", 7, api.Field{Name: b + "B", Body: "y"})
			continue
		}
		parses(t, "it begins what follows", "A: x\r\n"+b+"B: y\r\n", 6, api.Field{Name: "A", Body: "x"})
		parses(t, "it begins what follows", b+"B: y\r\n", 0)
	}
}

func TestParseBlanksOfABody(t *testing.T) {
	for _, ahead := range []string{"", " ", "\t", "  ", " \t", "\t ", "\t\t", " \t \t "} {
		for _, behind := range []string{"", " ", "\t", "  ", " \t", "\t ", "\t\t", " \t \t "} {
			for _, body := range []string{"", "x", "x y", "x\ty", "x \t y", ":", "\u00a0x\u00a0", "\x00", "\vx\f", "\nx\n", "é"} {
				line := "A:" + ahead + body + behind + "\r\n"
				parses(t, "blanks at both ends", line+"\r\n", len(line)+2, api.Field{Name: "A", Body: body})
			}
		}
	}
	for c := range 256 {
		b := string([]byte{byte(c)})
		want := b + "x" + b
		if b == " " || b == "\t" {
			want = "x"
		}
		parses(t, "each byte at both ends", "A:"+b+"x"+b+"\r\n\r\n", 9, api.Field{Name: "A", Body: want})
	}
}

func TestParseEachByteOfAName(t *testing.T) {
	for c := range 256 {
		b := string([]byte{byte(c)})
		for _, x := range []struct{ ahead, behind string }{{"", ""}, {"", "a"}, {"a", ""}, {"a", "a"}, {strings.Repeat("a", 99), ""}} {
			line := x.ahead + b + x.behind + ": x\r\n"
			switch {
			case head.Name(b):
				parses(t, "each byte of a name", line, len(line), api.Field{Name: x.ahead + b + x.behind, Body: "x"})
			case b == ":" && x.ahead != "":
				parses(t, "the first one counts", line, len(line), api.Field{Name: x.ahead, Body: x.behind + ": x"})
			case x.ahead == "" && (b == " " || b == "\t"):
				parsesNone(t, "it folds", line, api.ErrHead)
			default:
				parses(t, "no byte of a name", line, 0)
			}
		}
	}
}

func TestParseLengthOfAName(t *testing.T) {
	x := api.Field{Name: "A", Body: "x"}
	for n := range 210 {
		name := strings.Repeat("n", n)
		if n >= 1 && n <= 100 {
			parses(t, "the first line", name+":y\r\n\r\n", n+6, api.Field{Name: name, Body: "y"})
			parses(t, "behind a field", "A: x\r\n"+name+": y\r\n", n+11, x, api.Field{Name: name, Body: "y"})
			parses(t, "without a body", name+":\r\n", n+3, api.Field{Name: name, Body: ""})
		} else {
			parses(t, "the first line", name+":y\r\n\r\n", 0)
			parses(t, "behind a field", "A: x\r\n"+name+": y\r\n", 6, x)
			parses(t, "without a body", name+":\r\n", 0)
		}
	}
}

func TestParseNumberOfFields(t *testing.T) {
	for _, n := range []int{0, 1, 2, 500, 998, 999, 1000} {
		l := many(n)
		s := laid(l)
		parses(t, "to the end", s, len(s), l...)
		parses(t, "to an empty line", s+"\r\n", len(s)+2, l...)
		parses(t, "others behind an empty line", s+"\r\n"+s+s, len(s)+2, l...)
		parses(t, "to a line without a name", s+"x\r\n"+s+s, len(s), l...)
		parses(t, "to a line that doesn't end", s+"A: x", len(s), l...)
		if n > 0 {
			l[n-1].Body += " y"
			parses(t, "to a folded line", s+" y\r\n", len(s)+4, l...)
		}
	}
	for _, n := range []int{1001, 1002, 2000, 10_000, 100_000} {
		s := laid(many(n))
		for _, behind := range []string{"", "\r\n", "\r\nx", "x\r\n", "A: x", " y\r\n", " y"} {
			parsesNone(t, "too many", s+behind, api.ErrLong)
			parsesNone(t, "too many of the shortest", strings.Repeat("a:\r\n", n)+behind, api.ErrLong)
			parsesNone(t, "too many with folded lines", strings.Repeat("a:\r\n b\r\n", n)+behind, api.ErrLong)
		}
	}
	// Folded lines are no fields.
	s := laid(many(1000))
	l := many(1000)
	l[999].Body += strings.Repeat(" y", 2000)
	parses(t, "many lines", s+strings.Repeat(" y\r\n", 2000), len(s)+8000, l...)
	parsesNone(t, "one field more", s+strings.Repeat(" y\r\n", 2000)+"A: x\r\n", api.ErrLong)
}

// heads tells heads of n bytes of several kinds, without an empty line.
func heads(n int) []string {
	long := "A: " + strings.Repeat("x", n-5) + "\r\n"
	blank := "A:" + strings.Repeat(" ", n-4) + "\r\n"
	lines := strings.Repeat("A: x\r\n", 900)
	fields := lines + "B:" + strings.Repeat("y", n-len(lines)-4) + "\r\n"
	folds := "A: x\r\n" + strings.Repeat(" y\r\n", 20_000) + "\t" + strings.Repeat("z", n-6-80_000-3) + "\r\n"
	first := "A:" + strings.Repeat("x", n-len(lines)-15) + "\r\n" + lines + " y\r\n\t\r\n z\r\n"
	return []string{long, blank, fields, folds, first}
}

func TestParseSize(t *testing.T) {
	for n := 99_995; n < 100_010; n++ {
		for i, s := range heads(n) {
			if len(s) != n {
				t.Fatalf("the test's own: head %d has %d bytes, not %d", i, len(s), n)
			}
			for _, behind := range []string{"", "x\r\n", "\r", "\n\r\n", "A: x", " y", ": x\r\n", "a b\r\n\r\n", strings.Repeat("x", 100_000), strings.Repeat("x", 100_000) + "\r\n"} {
				sized(t, "without an empty line", s+behind, n)
			}
			for _, behind := range []string{"", "\r\n", "x", "A: x\r\n", " y\r\n", strings.Repeat("A: x\r\n", 1001)} {
				sized(t, "with an empty line", s+"\r\n"+behind, n+2)
			}
			sized(t, "with a field more", s+"C:\r\n", n+4)
			sized(t, "with a folded line more", s+" \r\n", n+3)
		}
	}
	for _, n := range []int{200_000, 1 << 20, 1 << 24} {
		for _, s := range heads(n) {
			sized(t, "far too long", s, n)
			sized(t, "far too long, with an empty line", s+"\r\n", n+2)
		}
	}
}

// sized fails the test unless Parse finds a head of n bytes in s, if there may be one.
func sized(t *testing.T, what, s string, n int) {
	t.Helper()
	if n > 100_000 {
		parsesNone(t, what, s, api.ErrLong)
	} else if _, got, err := head.Parse([]byte(s)); got != n || err != api.OK {
		t.Errorf("%s: Parse(%s): got %d, %d, want %d", what, short(s), got, err, n)
	}
}

func TestParseSizeOfAShortHead(t *testing.T) {
	long := strings.Repeat("x", 300_000)
	x := api.Field{Name: "A", Body: "x"}
	parses(t, "a long text behind an empty line", "A: x\r\n\r\n"+long, 8, x)
	parses(t, "a long line without a name behind", "A: x\r\n"+long+"\r\n", 6, x)
	parses(t, "a long line of colons behind", "A: x\r\n"+strings.Repeat(":", 300_000)+"\r\n", 6, x)
	parses(t, "a long line without a name first", long+"\r\n\r\n", 0)
	parses(t, "many fields behind an empty line", "A: x\r\n\r\n"+strings.Repeat("A: x\r\n", 50_000), 8, x)
	parses(t, "a long line that looks like a folded one behind an empty line", "\r\n "+long+"\r\n", 2)
	parsesNone(t, "a long field", "A: x\r\nB:"+long+"\r\n", api.ErrLong)
	parsesNone(t, "a long field first", "B:"+long+"\r\n", api.ErrLong)
	parsesNone(t, "a long folded line", "A: x\r\n "+long+"\r\n", api.ErrLong)
}

// P8.2

func TestShowOrdinary(t *testing.T) {
	shows(t, "none", nil, "\r\n")
	shows(t, "none", []api.Field{}, "\r\n")
	shows(t, "one", one("From", "a@b"), "From: a@b\r\n\r\n")
	shows(t, "several", []api.Field{{Name: "From", Body: "a@b"}, {Name: "To", Body: "c@d"}, {Name: "from", Body: ""}}, "From: a@b\r\nTo: c@d\r\nfrom: \r\n\r\n")
	shows(t, "one twice", []api.Field{{Name: "A", Body: "x"}, {Name: "A", Body: "x"}}, "A: x\r\nA: x\r\n\r\n")
	shows(t, "without a body", one("A", ""), "A: \r\n\r\n")
	shows(t, "of many fields", many(300), laid(many(300))+"\r\n")
}

func TestShowBodies(t *testing.T) {
	for _, body := range []string{"x", "x y", "x\ty", "x \t y", ":", "::x", "x: y", "é", "\x00", "\xff", "\v", "\f", "\x0b\x0c", "\u0085", "\u2028", "\u00a0", "\u2003x\u2003", "\x1f\x21", strings.Repeat("x", 5000)} {
		shows(t, "a body that may be", one("A", body), "A: "+body+"\r\n\r\n")
	}
	for _, body := range []string{
		"\r", "\n", "\r\n", "\n\r", "x\r", "x\n", "x\r\n", "\rx", "\nx", "\r\nx", "x\ry", "x\ny", "x\r\ny", "x\r\n y", "x\r\n\ty", "x\n y", "x\r\nB: y", "x\r\n\r\ny",
		" ", "\t", "  ", "\t\t", " \t", " x", "\tx", "x ", "x\t", " x ", "\tx\t", "x  ", " \t x", "x \t ", " x\n", "\r ", strings.Repeat("x", 5000) + "\n", strings.Repeat("x", 5000) + " ", " " + strings.Repeat("x", 5000),
	} {
		showsNone(t, "a body that may not be", one("A", body), api.ErrHead)
		showsNone(t, "the first one", append(one("A", body), many(3)...), api.ErrHead)
		showsNone(t, "the last one", append(many(3), one("A", body)...), api.ErrHead)
		showsNone(t, "in the midst", append(append(many(3), one("A", body)...), many(3)...), api.ErrHead)
	}
}

func TestShowEachByteOfABody(t *testing.T) {
	for c := range 256 {
		b := string([]byte{byte(c)})
		blank, ends := b == " " || b == "\t", b == "\r" || b == "\n"
		for _, x := range []struct {
			body string
			may  bool
		}{
			{b, !blank && !ends}, {b + "x", !blank && !ends}, {"x" + b, !blank && !ends}, {"x" + b + "y", !ends}, {"long enough " + b + " to be looked at otherwise", !ends},
		} {
			if x.may {
				shows(t, "each byte", one("A", x.body), "A: "+x.body+"\r\n\r\n")
			} else {
				showsNone(t, "each byte", one("A", x.body), api.ErrHead)
			}
		}
	}
}

func TestShowNames(t *testing.T) {
	for _, name := range []string{"", " ", ":", "a:", ":a", "a b", " a", "a ", "a\t", "\ta", "a\r", "a\n", "a\r\n", "A: x\r\nB", "é", "\x00", "\x7f", "\xff", strings.Repeat("a", 101), strings.Repeat("a", 100_001)} {
		showsNone(t, "a name that may not be", one(name, "x"), api.ErrHead)
		showsNone(t, "the first one", append(one(name, "x"), many(3)...), api.ErrHead)
		showsNone(t, "the last one", append(many(3), one(name, "x")...), api.ErrHead)
	}
	for _, name := range []string{"a", "Z", "0", "!", "~", "-", "a-b", "X-Y_Z.1", strings.Repeat("a", 100)} {
		shows(t, "a name that may be", one(name, "x"), name+": x\r\n\r\n")
	}
}

func TestShowNumberOfFields(t *testing.T) {
	for _, n := range []int{0, 1, 2, 500, 998, 999, 1000} {
		shows(t, "not too many", many(n), laid(many(n))+"\r\n")
	}
	for _, n := range []int{1001, 1002, 2000, 100_000} {
		showsNone(t, "too many", many(n), api.ErrLong)
		showsNone(t, "too many of the shortest", slices.Repeat(one("a", ""), n), api.ErrLong)
	}
}

func TestShowSize(t *testing.T) {
	for n := 99_995; n < 100_010; n++ {
		// A name of one byte, a body, and six bytes more.
		long := one("A", strings.Repeat("x", n-7))
		ahead := slices.Repeat(one("B", "y"), 999)
		fields := append(ahead, one("A", strings.Repeat("x", n-7-6*999))...)
		whole := slices.Repeat(one(strings.Repeat("n", 100), strings.Repeat("z", 896)), 99)
		whole = append(whole, one("A", strings.Repeat("x", n-7-1000*99))...)
		for i, l := range [][]api.Field{long, fields, whole} {
			want := laid(l) + "\r\n"
			if len(want) != n {
				t.Fatalf("the test's own: list %d has %d bytes, not %d", i, len(want), n)
			}
			if n <= 100_000 {
				shows(t, "not too long", l, want)
			} else {
				showsNone(t, "too long", l, api.ErrLong)
			}
		}
	}
	for _, n := range []int{200_000, 1 << 20, 1 << 26} {
		showsNone(t, "far too long", one("A", strings.Repeat("x", n)), api.ErrLong)
		showsNone(t, "far too long in all", slices.Repeat(one("A", strings.Repeat("x", n)), 3), api.ErrLong)
	}
	// Bodies that share memory: what they would be in all is far more than they take.
	showsNone(t, "a thousand times far too long", slices.Repeat(one("A", strings.Repeat("x", 1<<20)), 1000), api.ErrLong)
}

func TestShowErrHeadFirst(t *testing.T) {
	long := strings.Repeat("x", 100_001)
	for _, bad := range []api.Field{{Name: "", Body: "x"}, {Name: "a:", Body: "x"}, {Name: long, Body: "x"}, {Name: "A", Body: "x\n"}, {Name: "A", Body: " x"}, {Name: "A", Body: long + "\r"}, {Name: "A", Body: long + " "}} {
		for _, others := range [][]api.Field{many(1001), many(2000), one("A", long), {{Name: "A", Body: long}, {Name: "B", Body: long}}} {
			showsNone(t, "at the end of what is too long", append(slices.Clone(others), bad), api.ErrHead)
			showsNone(t, "at its beginning", append([]api.Field{bad}, others...), api.ErrHead)
			showsNone(t, "in its midst", append(append(slices.Clone(others), bad), others...), api.ErrHead)
		}
	}
}

// P8.3, P8.5

func TestGetAndCount(t *testing.T) {
	l := []api.Field{{Name: "From", Body: "a@b"}, {Name: "To", Body: "c@d"}, {Name: "TO", Body: "e@f"}, {Name: "Empty", Body: ""}, {Name: "to", Body: ""}}
	asks(t, "one", l, "From", "a@b", 1)
	asks(t, "the first of several", l, "To", "c@d", 3)
	asks(t, "the last one's name", l, "to", "c@d", 3)
	asks(t, "without a body", l, "Empty", "", 1)
	asks(t, "the first one has no body", []api.Field{{Name: "a", Body: ""}, {Name: "A", Body: "x"}}, "A", "", 2)
	for _, name := range []string{"", "F", "Fro", "Fromm", "rom", "From ", " From", "From:", "T", "T0", "Tо", "a@b", "c@d", "Emptyy", "To\x00"} {
		asks(t, "another name", l, name, "", 0)
	}
	for _, name := range []string{"", "A", "From"} {
		asks(t, "of no fields", nil, name, "", 0)
		asks(t, "of no fields", []api.Field{}, name, "", 0)
	}
}

func TestGetAndCountSizeOfLetters(t *testing.T) {
	const large, little = "ABCDEFGHIJKLMNOPQRSTUVWXYZ", "abcdefghijklmnopqrstuvwxyz"
	asks(t, "all letters", one(large, "x"), little, "x", 1)
	asks(t, "all letters", one(little, "x"), large, "x", 1)
	asks(t, "all letters, all ways", []api.Field{{Name: large, Body: "x"}, {Name: little, Body: "y"}}, "aBcDeFgHiJkLmNoPqRsTuVwXyZ", "x", 2)
	for _, name := range []string{"subject", "SUBJECT", "Subject", "sUBJECT", "sUbJeCt"} {
		for _, other := range []string{"subject", "SUBJECT", "Subject", "sUBJECT", "sUbJeCt"} {
			asks(t, "the size of letters", append(many(2), one(name, "x")...), other, "x", 1)
		}
	}
	// Each byte against each other one: only letters A to Z have another size.
	for c := range 256 {
		for d := range 256 {
			a, b := string([]byte{byte(c)}), string([]byte{byte(d)})
			at, other := strings.Index(large, a), strings.Index(little, b)
			back, turned := strings.Index(large, b), strings.Index(little, a)
			if c == d || at >= 0 && at == other || back >= 0 && back == turned {
				asks(t, "each byte", one("x"+a, "y"), "X"+b, "y", 1)
			} else {
				asks(t, "each byte", one("x"+a, "y"), "X"+b, "", 0)
			}
		}
	}
	for _, x := range []struct{ a, b string }{{"é", "É"}, {"k", "\u212a"}, {"s", "\u017f"}, {"i", "\u0130"}, {"I", "\u0131"}, {"ß", "ẞ"}, {"\xe9", "\xc9"}, {"\u01c5", "\u01c6"}, {"\xff", "\xfe"}, {"\xff", "\ufffd"}} {
		asks(t, "letters beyond Z", one(x.a, "x"), x.b, "", 0)
		asks(t, "letters beyond Z", one(x.b, "x"), x.a, "", 0)
		asks(t, "letters beyond Z", one(x.a, "x"), x.a, "x", 1)
	}
}

// The lists are anybody's: their names and bodies need not be such as Name and Show take.
func TestGetAndCountOfAnyFields(t *testing.T) {
	l := []api.Field{{}, {Name: "a:", Body: " x\r\n"}, {Name: "", Body: "y"}, {Name: "A:", Body: "z"}, {Name: strings.Repeat("n", 200), Body: "w"}, {Name: "\r\n", Body: "\x00"}}
	asks(t, "nothing", l, "", "", 2)
	asks(t, "with a colon", l, "A:", " x\r\n", 2)
	asks(t, "a long one", l, strings.Repeat("N", 200), "w", 1)
	asks(t, "an end", l, "\r\n", "\x00", 1)
	asks(t, "more than a thousand", many(5000), "field", "0", 5000)
	asks(t, "the last of many", append(many(5000), one("A", "x")...), "a", "x", 1)
}

// P8.4

func TestName(t *testing.T) {
	for _, s := range []string{"A", "From", "X-Y", "a.b", "1", "!", "~", "<>", "{|}", "\\", "\"", "Content-Type"} {
		named(t, "ordinary", s, true)
	}
	for _, s := range []string{"", " ", ":", "a b", " a", "a ", "a:", ":a", "a:b", "\t", "a\t", "\r\n", "a\r\n", "é", "aé", "\u00a0", "a\u200b", "\x00", "a\x00", "\xff", "a\x80b"} {
		named(t, "no name", s, false)
	}
}

func TestNameLength(t *testing.T) {
	for n := range 300 {
		named(t, "letters", strings.Repeat("a", n), n >= 1 && n <= 100)
		named(t, "signs", strings.Repeat("~", n), n >= 1 && n <= 100)
	}
	// Bytes count, not letters; and these aren't any.
	for _, n := range []int{1, 50, 51, 100} {
		named(t, "letters beyond Z", strings.Repeat("é", n), false)
	}
	for _, n := range []int{356, 1000, 65_537, 1 << 22} {
		named(t, "far too long", strings.Repeat("a", n), false)
	}
}

func TestNameEachByte(t *testing.T) {
	for c := range 256 {
		b := string([]byte{byte(c)})
		want := c >= 33 && c <= 126 && c != ':'
		for _, s := range []string{b, b + "a", "a" + b, "a" + b + "a", strings.Repeat(b, 2), strings.Repeat(b, 100), strings.Repeat("a", 99) + b, b + strings.Repeat("a", 99), strings.Repeat("a", 50) + b + strings.Repeat("a", 49)} {
			named(t, "each byte", s, want)
		}
		named(t, "each byte, too often", strings.Repeat(b, 101), false)
		named(t, "each byte, too far", strings.Repeat("a", 100)+b, false)
	}
	for c, want := range map[byte]bool{32: false, 33: true, 57: true, 58: false, 59: true, 126: true, 127: false} {
		named(t, "the edges", string([]byte{c}), want)
	}
}
