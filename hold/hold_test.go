package hold_test

import (
	"slices"
	"strconv"
	"strings"
	"testing"

	"scriptorium/api"
	"scriptorium/hold"
)

// What a hold's name may have, and letters that it may not have.
const (
	small = "abcdefghijklmnopqrstuvwxyz"
	marks = "0123456789-"
	large = "ABCDEFGHIJKLMNOPQRSTUVWXYZ"
)

// strange are texts that another rule of letters and digits would take for some, or make some of.
var strange = []string{"é", "É", "ß", "ä", "д", "α", "\u0663", "\u00b2", "\uff11", "\u2013", "\u2010", "\u00ad", "\u212a", "\u017f", "\u0130", "\u0131", "\uff21", "\uff41", "\u00aa", "\u0301", "\U0001d41a", "\ufffd", "\xff", "\xc3", "\x80", "\xe1", "\xc1\xa1", "\xed\xa0\x80"}

// short is s as a test tells it.
func short(s string) string {
	if len(s) > 200 {
		return strconv.Quote(s[:100]) + " .. (" + strconv.Itoa(len(s)) + " bytes)"
	}
	return strconv.Quote(s)
}

// each tells each byte of s as a text.
func each(s string) []string { return strings.Split(s, "") }

// of is the hold of that name, of that one's messages.
func of(name, who string) api.Hold { return api.Hold{Name: name, Who: who} }

// three are holds on which most tests stand.
func three() []api.Hold {
	return []api.Hold{of("case-1", "a@x.org"), of("bb", "b@y.org"), of("7-b", "c@z.org")}
}

// whose are holds of those, each with a name that no other one has.
func whose(all ...string) []api.Hold {
	var l []api.Hold
	for i, who := range all {
		l = append(l, of("h"+strconv.Itoa(i), who))
	}
	return l
}

// many are n holds of unlike names and of unlike ones.
func many(n int) []api.Hold {
	var l []api.Hold
	for i := range n {
		l = append(l, of("many-"+strconv.Itoa(i), "m"+strconv.Itoa(i)+"@q"))
	}
	return l
}

// without is l without the hold at that place.
func without(l []api.Hold, at int) []api.Hold { return slices.Delete(slices.Clone(l), at, at+1) }

// places fails the test unless Place answers l and h behind it.
func places(t *testing.T, what string, l []api.Hold, h api.Hold) {
	t.Helper()
	got, err := hold.Place(l, h)
	if err != api.OK || !slices.Equal(got, append(slices.Clone(l), h)) {
		t.Errorf("%s: Place of %s, %s on %d: got %d holds, %d", what, short(h.Name), short(h.Who), len(l), len(got), err)
	}
}

// refuses fails the test unless Place answers that error, and no holds.
func refuses(t *testing.T, what string, l []api.Hold, h api.Hold, want api.Errno) {
	t.Helper()
	if got, err := hold.Place(l, h); err != want || len(got) != 0 {
		t.Errorf("%s: Place of %s, %s on %d: got %d holds, %d, want none, %d", what, short(h.Name), short(h.Who), len(l), len(got), err, want)
	}
}

// placesAnywhere fails the test unless Place takes h, or doesn't, on no holds, on some, and, if it is a hold, on a full list.
func placesAnywhere(t *testing.T, what string, h api.Hold, ok bool) {
	t.Helper()
	for _, l := range [][]api.Hold{nil, many(1), three(), many(99)} {
		if ok {
			places(t, what, l, h)
		} else {
			refuses(t, what, l, h, api.ErrHold)
		}
	}
	want := api.ErrHold
	if ok {
		want = api.ErrLong
	}
	for _, n := range []int{100, 101, 200} {
		refuses(t, what+", it is full", many(n), h, want)
	}
}

// P14.1

func TestPlaceOrdinary(t *testing.T) {
	places(t, "the first one", nil, of("case-1", "a@B"))
	places(t, "of everybody", three(), of("all", ""))
	places(t, "of another one", three(), of("more", "d@x.org"))
	places(t, "of one who is held already", three(), of("more", "a@x.org"))
	places(t, "behind a hold of everybody", whose(""), of("more", ""))
	var l []api.Hold
	for i, h := range many(100) {
		places(t, "one behind the other", l, h)
		l, _ = hold.Place(l, h)
		if !slices.Equal(l, many(i+1)) {
			t.Fatalf("%d placed one behind the other: got %v", i+1, l)
		}
	}
	refuses(t, "one more", l, of("more", ""), api.ErrLong)
}

func TestPlaceNames(t *testing.T) {
	for _, s := range append(each(small+marks), "--", "-a", "a-", "a--b", "007", "case-2026-11", "legal", small, small[:19]+marks, marks+small[:19], strings.Repeat("-", 30)) {
		placesAnywhere(t, "a name", of(s, ""), true)
		placesAnywhere(t, "a name", of(s, "a@x.org"), true)
	}
	for _, s := range append([]string{"", "A", "Z", "Legal", "LEGAL", "legaL", " ", " a", "a ", "a b", ".", "a.b", "a.", ".a", "_", "a_b", "a+b", "a/b", "a@b", "<a>", "a:", "a,b", "*", "a\n", "\ta", "a\x00", "\x00", "a\r\n"}, strange...) {
		placesAnywhere(t, "no name", of(s, ""), false)
		placesAnywhere(t, "no name", of(s, "a@x.org"), false)
		if s != "" {
			placesAnywhere(t, "no name, behind one", of("ab"+s, ""), false)
			placesAnywhere(t, "no name, ahead of one", of(s+"ab", ""), false)
		}
	}
}

func TestPlaceNamesLengths(t *testing.T) {
	for n := range 70 {
		for _, s := range []string{"a", "z", "0", "9", "-", small} {
			placesAnywhere(t, "long", of(strings.Repeat(s, n)[:n], ""), n >= 1 && n <= 30)
		}
	}
	placesAnywhere(t, "very long", of(strings.Repeat("a", 1<<20), ""), false)
	placesAnywhere(t, "30 bytes, fewer letters", of(strings.Repeat("é", 15), ""), false)
	placesAnywhere(t, "30 letters, more bytes", of(strings.Repeat("é", 30), ""), false)
}

func TestPlaceNamesOfEachByte(t *testing.T) {
	for c := range 256 {
		s := string([]byte{byte(c)})
		ok := strings.Contains(small+marks, s)
		for _, name := range []string{s, s + "a", "z" + s, "a" + s + "9", "-" + s + "-", s + strings.Repeat("m", 29), strings.Repeat("m", 29) + s, "nnnnnnnnnnnnnnn" + s + "nnnnnnnnnnnnnn"} {
			placesAnywhere(t, "a byte", of(name, ""), ok)
		}
		placesAnywhere(t, "a byte, too long", of(s+strings.Repeat("m", 30), ""), false)
		placesAnywhere(t, "a byte, too long", of(strings.Repeat("m", 30)+s, ""), false)
	}
	// Next to what a name may have.
	for _, s := range each("`{/:,.@[") {
		placesAnywhere(t, "next to it", of("a"+s, "a@x.org"), false)
	}
}

func TestPlaceWho(t *testing.T) {
	local := strings.Repeat("l", 64)
	long := strings.Repeat(strings.Repeat("d", 63)+".", 3) + strings.Repeat("e", 63)
	for _, s := range []string{"", "a@x.org", "A@X.ORG", "a@X.Org", "A.B@x", "a@B", "a.b@x.org", "*@x.org", "!#$%&'*+-/=?^_{|}~`@x", "a@1.2.3.4", "a@x-y", local + "@x.org", "a@" + long, local + "@" + long} {
		placesAnywhere(t, "who may be", of("h", s), true)
	}
	for _, s := range append([]string{
		"x", "a", "x.org", "@", "@x.org", "a@", "a b@x.org", "a@x org", " ", " a@x.org", "a@x.org ", "a@x.org\r\n", "<a@x.org>", "<>", "a@b@x.org",
		".a@x.org", "a.@x.org", "a..b@x.org", "a@x..org", "a@.x", "a@x.", "a@-x", "a@x-", "a@x_y", "a@[1.2.3.4]", "\"a\"@x.org", "a@x.org,b@x.org", "*", "-", "\x00", "a@x\x00",
		local + "l@x.org", "a@" + long + "e", strings.Repeat("a", 1<<20) + "@x", "a@" + strings.Repeat("x", 1<<20),
	}, strange...) {
		placesAnywhere(t, "who may not be", of("h", s), false)
		placesAnywhere(t, "neither may be", of("H", s), false)
	}
	for _, s := range strange {
		placesAnywhere(t, "who may not be", of("h", s+"@x.org"), false)
		placesAnywhere(t, "who may not be", of("h", "a@x"+s+".org"), false)
	}
}

func TestPlaceHowMany(t *testing.T) {
	for _, n := range []int{0, 1, 2, 50, 98, 99} {
		places(t, "there is room", many(n), of("more", "a@x.org"))
		places(t, "there is room", many(n), of("more", ""))
	}
	for _, n := range []int{100, 101, 102, 200, 256, 1 << 16} {
		refuses(t, "it is full", many(n), of("more", "a@x.org"), api.ErrLong)
		refuses(t, "it is full", many(n), of("more", ""), api.ErrLong)
	}
	refuses(t, "full of one that stands there often", slices.Repeat(many(1), 100), of("more", ""), api.ErrLong)
}

func TestPlaceOfANameThatIsThere(t *testing.T) {
	for _, n := range []int{1, 2, 3, 99, 100, 101} {
		for _, at := range []int{0, n / 2, n - 1} {
			there := many(n)[at]
			refuses(t, "alike", many(n), there, api.ErrHold)
			refuses(t, "of another one", many(n), of(there.Name, "a@x.org"), api.ErrHold)
			refuses(t, "of everybody", many(n), of(there.Name, ""), api.ErrHold)
			refuses(t, "of one who may not be", many(n), of(there.Name, "x"), api.ErrHold)
			l := many(n)
			l[at].Who = ""
			refuses(t, "that one is everybody's", l, of(there.Name, "a@x.org"), api.ErrHold)
			if n < 100 {
				places(t, "no longer there", without(many(n), at), there)
				places(t, "another name", many(n), of(there.Name+"a", there.Who))
				places(t, "another name", many(n), of("a"+there.Name, there.Who))
			}
		}
	}
	for _, s := range []string{"case-", "case-11", "case1", "ase-1", "c", "-", "b", "bbb", "7-", "7-bb", "7"} {
		places(t, "a piece of it, or more than it", three(), of(s, "a@x.org"))
	}
	refuses(t, "there twice", append(three(), three()...), of("bb", ""), api.ErrHold)
}

func TestPlaceWhichErrorIsFirst(t *testing.T) {
	for _, n := range []int{100, 101, 1000} {
		refuses(t, "no name, full", many(n), of("", ""), api.ErrHold)
		refuses(t, "no name, full", many(n), of("A", "a@x.org"), api.ErrHold)
		refuses(t, "nobody, full", many(n), of("more", "x.org"), api.ErrHold)
		refuses(t, "there, full", many(n), of("many-0", ""), api.ErrHold)
		refuses(t, "there, full", many(n), many(n)[n-1], api.ErrHold)
		refuses(t, "full alone", many(n), of("more", "a@x.org"), api.ErrLong)
	}
}

// Place asks of what is there nothing but its name: it may be what Place refuses.
func TestPlaceOnHoldsThatMayNotBe(t *testing.T) {
	l := []api.Hold{of("", "x"), of("A", "@"), of("\xff", "\xff"), of("a", ""), of("a", "x")}
	places(t, "behind them", l, of("b", "a@x.org"))
	places(t, "behind them", append(many(94), l...), of("b", ""))
	refuses(t, "the same name", l, of("a", "a@x.org"), api.ErrHold)
	refuses(t, "a name that may not be", l, of("A", ""), api.ErrHold)
	refuses(t, "full of them", slices.Repeat(l, 20), of("b", ""), api.ErrLong)
}

// P14.2

// lifts fails the test unless Lift of that name answers those.
func lifts(t *testing.T, what string, l []api.Hold, name string, want []api.Hold) {
	t.Helper()
	if got, err := hold.Lift(l, name); err != api.OK || !slices.Equal(got, want) {
		t.Errorf("%s: Lift of %s from %d: got %d holds, %d, want %d", what, short(name), len(l), len(got), err, len(want))
	}
}

// liftsNone fails the test unless Lift finds no such name.
func liftsNone(t *testing.T, what string, l []api.Hold, name string) {
	t.Helper()
	if got, err := hold.Lift(l, name); err != api.ErrNone || len(got) != 0 {
		t.Errorf("%s: Lift of %s from %d: got %d holds, %d", what, short(name), len(l), len(got), err)
	}
}

func TestLiftOrdinary(t *testing.T) {
	l := three()
	lifts(t, "the first one", l, "case-1", l[1:])
	lifts(t, "one between", l, "bb", []api.Hold{l[0], l[2]})
	lifts(t, "the last one", l, "7-b", l[:2])
	lifts(t, "the only one", l[:1], "case-1", nil)
	lifts(t, "the only one, of everybody", whose(""), "h0", nil)
}

func TestLiftEachOfMany(t *testing.T) {
	for _, n := range []int{1, 2, 3, 99, 100, 101, 300} {
		for at, h := range many(n) {
			lifts(t, "of many", many(n), h.Name, without(many(n), at))
		}
	}
}

func TestLiftNone(t *testing.T) {
	for _, s := range append([]string{"", "b", "Bb", "BB", "CASE-1", "case-", "case-11", "ase-1", "case-1 ", " bb", "bbb", "7-", "7-bb", "7", "a@x.org", "b@y.org", "bb\x00", "-", strings.Repeat("b", 1<<20)}, strange...) {
		liftsNone(t, "no such name", three(), s)
		liftsNone(t, "no holds", nil, s)
		liftsNone(t, "no holds", []api.Hold{}, s)
	}
	liftsNone(t, "no holds", nil, "bb")
	liftsNone(t, "no holds", []api.Hold{}, "bb")
	liftsNone(t, "it is lifted already", without(three(), 1), "bb")
	liftsNone(t, "not one of many", many(200), "many-200")
}

func TestLiftOfANameThatStandsTwice(t *testing.T) {
	a, b, again := of("a", "a@x.org"), of("b", ""), of("a", "c@z.org")
	lifts(t, "next to each other", []api.Hold{a, again}, "a", []api.Hold{again})
	lifts(t, "next to each other, the other way round", []api.Hold{again, a}, "a", []api.Hold{a})
	lifts(t, "far from each other", []api.Hold{a, b, again}, "a", []api.Hold{b, again})
	lifts(t, "at the end", []api.Hold{b, a, again}, "a", []api.Hold{b, again})
	lifts(t, "alike", []api.Hold{a, b, a}, "a", []api.Hold{b, a})
	lifts(t, "three times", []api.Hold{again, a, a}, "a", []api.Hold{a, a})
	lifts(t, "another one", []api.Hold{a, b, again}, "b", []api.Hold{a, again})
}

// What Place refuses is found by its name all the same.
func TestLiftOfHoldsThatMayNotBe(t *testing.T) {
	for _, s := range append([]string{"", "A", "a b", "a.b", strings.Repeat("a", 31)}, strange...) {
		l := []api.Hold{of("b", "x"), of(s, "y"), of("c", "")}
		lifts(t, "no name", l, s, without(l, 1))
		lifts(t, "next to it", l, "b", l[1:])
		liftsNone(t, "another one", l, s+"a")
	}
}

// P14.3

// covers fails the test unless Covers answers that of a message from that sender to those recipients.
func covers(t *testing.T, what string, l []api.Hold, from string, to []string, want bool) {
	t.Helper()
	if got := hold.Covers(l, api.Envelope{From: from, To: to, At: 5}); got != want {
		t.Errorf("%s: Covers of %d holds, from %s to %d: got %v", what, len(l), short(from), len(to), got)
	}
}

func TestCoversOrdinary(t *testing.T) {
	covers(t, "who sends", three(), "b@y.org", []string{"q@q"}, true)
	covers(t, "who receives", three(), "q@q", []string{"b@y.org"}, true)
	covers(t, "both", three(), "a@x.org", []string{"c@z.org"}, true)
	covers(t, "none of them", three(), "q@q", []string{"r@q", "s@x.org"}, false)
	covers(t, "another one of that domain", three(), "b@x.org", []string{"a@y.org", "a@z.org"}, false)
}

func TestCoversOfNoHolds(t *testing.T) {
	for _, l := range [][]api.Hold{nil, {}} {
		covers(t, "no holds", l, "a@x.org", []string{"b@y.org"}, false)
		covers(t, "no holds", l, "", []string{"b@y.org"}, false)
		covers(t, "no holds", l, "a@x.org", nil, false)
		covers(t, "no holds", l, "", []string{""}, false)
		covers(t, "no holds", l, "", nil, false)
	}
}

func TestCoversOfAHoldOfEverybody(t *testing.T) {
	for n := 1; n <= 101; n++ {
		for _, at := range []int{0, n / 2, n - 1} {
			l := many(n)
			covers(t, "none of them is", l, "a@x.org", []string{"b@y.org"}, false)
			covers(t, "none of them is", l, "", nil, false)
			l[at].Who = ""
			covers(t, "one is", l, "a@x.org", []string{"b@y.org"}, true)
			covers(t, "nobody sends", l, "", []string{"b@y.org"}, true)
			covers(t, "nobody receives", l, "a@x.org", nil, true)
			covers(t, "neither", l, "", nil, true)
			covers(t, "no addresses", l, "x", []string{"", "@", "y"}, true)
		}
	}
}

func TestCoversOfTheSenderAlone(t *testing.T) {
	for _, to := range [][]string{nil, {}, {"q@q"}, {"q@q", "r@q"}, {""}} {
		for _, h := range three() {
			covers(t, "each hold", three(), h.Who, to, true)
			covers(t, "it alone", []api.Hold{h}, h.Who, to, true)
		}
		covers(t, "none", three(), "q@q", to, false)
	}
	for _, h := range many(101) {
		covers(t, "each of many", many(101), h.Who, []string{"q@q"}, true)
	}
}

func TestCoversOfARecipientAlone(t *testing.T) {
	for n := 1; n <= 120; n++ {
		for _, at := range []int{0, n / 2, n - 1} {
			to := slices.Repeat([]string{"q@q"}, n)
			covers(t, "none of them", three(), "q@q", to, false)
			for _, h := range three() {
				to[at] = h.Who
				covers(t, "one of them", three(), "q@q", to, true)
				covers(t, "one of them, nobody sends", three(), "", to, true)
				covers(t, "one of them, one hold", []api.Hold{h}, "q@q", to, true)
			}
		}
	}
	covers(t, "the last one of very many", three(), "q@q", append(slices.Repeat([]string{"q@q"}, 1<<16), "c@z.org"), true)
}

func TestCoversOfLargeLetters(t *testing.T) {
	for _, who := range []string{"b@y.org", "b@Y.org", "b@Y.ORG", "b@y.oRg"} {
		for _, s := range []string{"b@y.org", "b@Y.org", "b@Y.ORG", "b@y.oRg"} {
			covers(t, "behind the @, the sender's", whose("q@q", who), s, []string{"q@r"}, true)
			covers(t, "behind the @, a recipient's", whose("q@q", who), "q@r", []string{"q@r", s}, true)
		}
		for _, s := range []string{"B@y.org", "B@Y.ORG", "B@Y.org"} {
			covers(t, "ahead of the @, the sender's", whose("q@q", who), s, []string{"q@r"}, false)
			covers(t, "ahead of the @, a recipient's", whose("q@q", who), "q@r", []string{"q@r", s}, false)
			covers(t, "ahead of the @, the hold's", whose("q@q", s), who, []string{"q@r", who}, false)
			covers(t, "ahead of the @, both", whose("q@q", s), "B@y.ORG", nil, true)
		}
	}
	for i, c := range each(small) {
		C := large[i : i+1]
		covers(t, "each letter", whose("a@"+c+".org"), "a@"+C+".org", nil, true)
		covers(t, "each letter of a hold", whose("a@"+C+".org"), "q@q", []string{"a@" + c + ".org"}, true)
		covers(t, "each letter ahead of the @", whose(c+"@x.org"), C+"@x.org", nil, false)
		covers(t, "each letter ahead of the @ of a hold", whose(C+"@x.org"), "q@q", []string{c + "@x.org"}, false)
	}
	for _, s := range []string{"a@\u212a.org", "a@K\u0301.org", "a@\uff4b.org", "a@\xcb.org", "a@\x0b.org"} {
		covers(t, "no large letter", whose("a@k.org", "a@K.org"), s, []string{s}, false)
	}
}

// Bytes are the same or they aren't, but for the large letters behind the @.
func TestCoversOfEachByte(t *testing.T) {
	for c := range 256 {
		for d := range 256 {
			a, b := string([]byte{byte(c)}), string([]byte{byte(d)})
			alike := c == d || c < 128 && d < 128 && strings.EqualFold(a, b)
			l := whose("a@x" + a + ".org")
			covers(t, "behind the @ "+short(a+b), l, "a@x"+b+".org", []string{"q@q"}, alike)
			covers(t, "behind the @, a recipient's "+short(a+b), l, "q@q", []string{"q@q", "a@x" + b + ".org"}, alike)
			l = whose("a" + a + "@x.org")
			covers(t, "ahead of the @ "+short(a+b), l, "a"+b+"@x.org", []string{"q@q"}, c == d)
			covers(t, "ahead of the @, a recipient's "+short(a+b), l, "q@q", []string{"q@q", "a" + b + "@x.org"}, c == d)
		}
	}
}

func TestCoversOfNobody(t *testing.T) {
	covers(t, "nobody sends", three(), "", []string{"q@q"}, false)
	covers(t, "nobody sends, to one who is held", three(), "", []string{"q@q", "a@x.org"}, true)
	covers(t, "nobody sends to nobody", three(), "", nil, false)
	covers(t, "nobody receives", three(), "q@q", nil, false)
	covers(t, "nobody receives of one who is held", three(), "a@x.org", nil, true)
	covers(t, "nobodies receive", three(), "q@q", []string{"", "", ""}, false)
	covers(t, "nobodies receive of nobody", three(), "", []string{"", ""}, false)
	covers(t, "nobodies receive, and one who is held", three(), "", []string{"", "", "a@x.org"}, true)
}

func TestCoversOfNoAddress(t *testing.T) {
	for _, s := range []string{"b", "y.org", "Y.ORG", "@y.org", "b@", "b@y", "b@y.or", "b@y.org.", "b@y.orgs", "ab@y.org", " b@y.org", "b@y.org ", "<b@y.org>", "b@mail.y.org", "b@y.org@q", "q@b@y.org", "b@y.org\x00", "by.org", "@", "*"} {
		covers(t, "the sender", three(), s, []string{"q@q"}, false)
		covers(t, "a recipient", three(), "q@q", []string{s}, false)
		covers(t, "another one is held", three(), s, []string{s, "b@y.org", s}, true)
		// Place refuses most of such holds; what is the same is covered all the same.
		covers(t, "a hold of it", whose("q@q", s), s, nil, true)
		covers(t, "a hold of it, another one sends", whose("q@r", s), "q@q", []string{"b@y.org", "a@" + s}, false)
	}
	// Large letters are made small behind the last @ alone: there is nothing behind it in an address that has none.
	covers(t, "without an @", whose("Y.ORG"), "y.org", []string{"y.ORG"}, false)
	covers(t, "two of them", whose("a@B@Y.ORG"), "a@B@y.org", nil, true)
	covers(t, "two of them", whose("a@B@Y.ORG"), "a@b@y.org", nil, false)
}

// P14.4

// names fails the test unless Names answers those.
func names(t *testing.T, what string, l []api.Hold, want ...string) {
	t.Helper()
	if got := hold.Names(l); !slices.Equal(got, want) {
		t.Errorf("%s: Names of %d: got %s, want %s", what, len(l), short(strings.Join(got, " ")), short(strings.Join(want, " ")))
	}
}

func TestNames(t *testing.T) {
	names(t, "no holds", nil)
	names(t, "no holds", []api.Hold{})
	names(t, "one", three()[:1], "case-1")
	names(t, "as they stand, not as letters rise", three(), "case-1", "bb", "7-b")
	names(t, "the other way round", []api.Hold{three()[2], three()[1], three()[0]}, "7-b", "bb", "case-1")
	names(t, "twice", append(three(), three()...), "case-1", "bb", "7-b", "case-1", "bb", "7-b")
	names(t, "twice, next to each other", []api.Hold{of("a", ""), of("a", "a@x.org"), of("a", "")}, "a", "a", "a")
	names(t, "none that may be", []api.Hold{of("", "x"), of("A", ""), of("\xff", "@"), of("", "")}, "", "A", "\xff", "")
	for _, n := range []int{1, 99, 100, 101, 1 << 12} {
		var want []string
		for i := range n {
			want = append(want, "many-"+strconv.Itoa(i))
		}
		names(t, "many", many(n), want...)
	}
}

// The chapter's example.
func TestExample(t *testing.T) {
	l, err := hold.Place(nil, of("a", "a@x.org"))
	if err != api.OK {
		t.Fatal(err)
	}
	refuses(t, "two with one name", l, of("a", "a@x.org"), api.ErrHold)
	refuses(t, "two with one name", l, of("a", "b@x.org"), api.ErrHold)
	refuses(t, "two with one name", l, of("a", ""), api.ErrHold)
}

// P14.5

// stays fails the test unless placing h covers e if it was covered or is h's, and lifting h again leaves all as it was.
func stays(t *testing.T, l []api.Hold, h api.Hold, e api.Envelope) {
	t.Helper()
	was, own := hold.Covers(l, e), hold.Covers([]api.Hold{h}, e)
	placed, err := hold.Place(l, h)
	if err != api.OK {
		t.Errorf("Place of %s on %d: got %d", short(h.Name), len(l), err)
		return
	}
	if hold.Covers(placed, e) != (was || own) {
		t.Errorf("Place of %s, %s on %v: from %s to %q it was %v, of it alone %v, and isn't so then", short(h.Name), short(h.Who), l, short(e.From), e.To, was, own)
	}
	lifts(t, "placed and lifted again", placed, h.Name, l)
	for at, there := range l {
		// The first one of that name goes; the others stay, and cover what they did.
		at = slices.IndexFunc(l[:at+1], func(o api.Hold) bool { return o.Name == there.Name })
		lifted, err := hold.Lift(placed, there.Name)
		if rest := append(without(l, at), h); err != api.OK || hold.Covers(lifted, e) != hold.Covers(rest, e) || hold.Covers(lifted, e) && !hold.Covers(placed, e) {
			t.Errorf("Lift of %s: from %s to %q: got %v, %d, want %v", short(there.Name), short(e.From), e.To, lifted, err, rest)
		}
	}
}

func TestPlacingAndLifting(t *testing.T) {
	froms := []string{"", "q@q", "a@x.org", "a@X.ORG", "A@x.org", "b@y.org", "d@x.org", "x.org"}
	tos := [][]string{nil, {"q@q"}, {"c@z.org"}, {"q@q", "d@X.org"}, {"", "q@q", "b@Y.ORG"}}
	for _, l := range [][]api.Hold{nil, three(), three()[:1], many(99), whose(""), whose("q@q", "", "a@x.org"), append(three(), three()...)} {
		for _, who := range []string{"", "q@q", "a@x.org", "a@X.org", "A@X.ORG", "d@x.org"} {
			for _, from := range froms {
				for _, to := range tos {
					stays(t, l, of("new", who), api.Envelope{From: from, To: to})
				}
			}
		}
	}
}

// A hold that is lifted leaves uncovered just what it alone has covered.
func TestLiftingOneOfTwo(t *testing.T) {
	l := []api.Hold{of("a", "a@x.org"), of("b", "a@X.ORG"), of("c", "b@y.org")}
	for i, h := range l {
		lifted, _ := hold.Lift(l, h.Name)
		covers(t, "another hold is left", lifted, "a@x.org", nil, true)
		covers(t, "it alone", lifted, "b@y.org", nil, i < 2)
		covers(t, "neither", lifted, "q@q", []string{"A@x.org"}, false)
	}
}
