package hold_test

import (
	"math"
	"math/rand/v2"
	"regexp"
	"slices"
	"strings"
	"testing"
	"unsafe"

	"scriptorium/api"
	"scriptorium/hold"
)

// What a hold's name is, and who it may be of, told by patterns: what the calls are held against. Lengths of a mailbox's parts are counted beside it. The last one parts an address at its last @.
var (
	aName    = regexp.MustCompile(`\A[a-z0-9-]{1,30}\z`)
	aMailbox = regexp.MustCompile("\\A([a-zA-Z0-9!#$%&'*+/=?^_`{|}~-]+(?:\\.[a-zA-Z0-9!#$%&'*+/=?^_`{|}~-]+)*)@([a-zA-Z0-9](?:[a-zA-Z0-9-]{0,61}[a-zA-Z0-9])?(?:\\.[a-zA-Z0-9](?:[a-zA-Z0-9-]{0,61}[a-zA-Z0-9])?)*)\\z")
	parted   = regexp.MustCompile(`(?s)\A(.*@)([^@]*)\z`)
)

// toSmall makes small letters of large ones, byte by byte.
var toSmall = func() *strings.Replacer {
	var pairs []string
	for _, c := range each(small) {
		pairs = append(pairs, strings.ToUpper(c), c)
	}
	return strings.NewReplacer(pairs...)
}()

// may is what the chapter says of a hold that is to be placed, over again.
func may(h api.Hold) bool {
	parts := aMailbox.FindStringSubmatch(h.Who)
	return aName.MatchString(h.Name) && (h.Who == "" || parts != nil && len(parts[1]) <= 64 && len(parts[2]) <= 255)
}

// folded is an address with the letters small that are held against each other so.
func folded(addr string) string {
	parts := parted.FindStringSubmatch(addr)
	if parts == nil {
		return addr
	}
	return parts[1] + toSmall.Replace(parts[2])
}

// covered is what the chapter says of Covers, over again, hold by hold.
func covered(l []api.Hold, e api.Envelope) bool {
	found := false
	for _, h := range l {
		found = found || h.Who == ""
		for _, addr := range append([]string{e.From}, e.To...) {
			found = found || folded(addr) == folded(h.Who)
		}
	}
	return found
}

// called are the names of those.
func called(l []api.Hold) []string {
	var all []string
	for _, h := range l {
		all = append(all, h.Name)
	}
	return all
}

// holds fails the test unless the calls answer of these what the chapter says.
func holds(t *testing.T, l []api.Hold, h api.Hold, name string, e api.Envelope) {
	t.Helper()
	there := called(l)
	names(t, "a model", l, there...)
	covers(t, "a model", l, e.From, e.To, covered(l, e))
	at := slices.Index(there, name)
	if at >= 0 {
		lifts(t, "a model", l, name, without(l, at))
	} else {
		liftsNone(t, "a model", l, name)
	}
	switch {
	case !may(h) || slices.Contains(there, h.Name):
		refuses(t, "a model", l, h, api.ErrHold)
	case len(l) > 99:
		refuses(t, "a model", l, h, api.ErrLong)
	default:
		places(t, "a model", l, h)
		stays(t, l, h, e)
	}
}

// drawn is one of those, by lot, the same in each run.
func drawn[T any](r *rand.Rand, from []T) T { return from[r.IntN(len(from))] }

// several are up to n of those.
func several[T any](r *rand.Rand, from []T, n int) []T {
	var l []T
	for range r.IntN(n + 1) {
		l = append(l, drawn(r, from))
	}
	return l
}

// What lists are put together from: few of a kind, so that they meet each other.
var (
	goodNames = []string{"a", "b", "c", "-", "0", "case-1", strings.Repeat("a", 30)}
	allNames  = append(slices.Clone(goodNames), "", "A", "a b", "a.b", "`", "{", "/", ":", ",", strings.Repeat("a", 31), "é", "\xff")
	goodWho   = []string{"", "a@x", "a@X", "A@x", "b@x.org", "B@X.ORG", "b@X.Org", "c@y.org", "d@x-Y.org", "a@1.2.3.4"}
	allWho    = append(slices.Clone(goodWho), "a", "x.org", "X.ORG", "a@[1.2.3.4]", "@", "@x", "@X", "x@", "X@", "a@b@x.org", "a@B@X.org", "a@b@X.org", "a@x.org@b", "\xff@\xff", "a@é.org", "a@É.org")
)

// lists tells holds that look drawn by lot, and one to be placed: of some all that is in them may be, of others only most.
func lists(yield func([]api.Hold, api.Hold) bool) {
	r := rand.New(rand.NewPCG(14, 1))
	for i := range 20000 {
		names, who := goodNames, goodWho
		if i%4 == 2 {
			names = allNames
		}
		if i%4 == 3 {
			who = allWho
		}
		var l []api.Hold
		if i%50 == 0 {
			l = many(97)
		}
		for range r.IntN(5) {
			l = append(l, of(drawn(r, names), drawn(r, who)))
		}
		if !yield(l, of(drawn(r, names), drawn(r, who))) {
			return
		}
	}
}

// P1: any lists, any bytes.
func TestAnyLists(t *testing.T) {
	r := rand.New(rand.NewPCG(14, 2))
	placed, all := 0, 0
	for l, h := range lists {
		e := api.Envelope{From: drawn(r, allWho), To: several(r, allWho, 3), At: int64(r.Uint64())}
		holds(t, l, h, drawn(r, allNames), e)
		if _, err := hold.Place(l, h); err == api.OK {
			placed++
		}
		if hold.Covers(l, e) {
			all++
		}
	}
	if placed < 5000 || all < 5000 || all > 15000 {
		t.Errorf("of the lists %d take a hold, %d cover a message", placed, all)
	}
}

func TestAnyBytes(t *testing.T) {
	r := rand.New(rand.NewPCG(14, 3))
	draw := func(from string) string {
		b := make([]byte, r.IntN(24))
		for i := range b {
			b[i] = from[r.IntN(len(from))]
		}
		return string(b)
	}
	for _, from := range []string{"ab", "aZ", "a@.", "aB@.", "az`{", "09/:", "a-,.", "\x00\x7f\x80\xffa", "a\xc3\xa9@"} {
		for range 2000 {
			l := []api.Hold{of(draw(from), draw(from)), of(draw(from), "a@"+draw(from))}
			e := api.Envelope{From: draw(from), To: []string{draw(from), "a@" + draw(from), drawn(r, l).Who}}
			holds(t, l, of(draw(from), draw(from)), draw(from), e)
			holds(t, l[:1], of(draw(from), "a@"+draw(from)), l[0].Name, api.Envelope{From: draw(from), To: e.To[:2]})
			holds(t, l, of(draw(from), ""), l[1].Name, api.Envelope{To: e.To[:1]})
		}
	}
}

func TestLongTexts(t *testing.T) {
	const n = 1 << 20
	for _, s := range []string{"a", "A", "0", ".", "@", "-", "\x00", "\xff", "a.", "a@"} {
		long := strings.Repeat(s, n/len(s))
		l := []api.Hold{of("a", "a@x.org"), of(long, long), of("b", "a@"+long)}
		refuses(t, "a long name", l, of(long+"q", ""), api.ErrHold)
		refuses(t, "a long mailbox", l, of("q", long+"@x.org"), api.ErrHold)
		refuses(t, "a long domain", l, of("q", "x@"+long), api.ErrHold)
		places(t, "behind long ones", l, of("q", ""))
		lifts(t, "long", l, long, without(l, 1))
		lifts(t, "next to it", l, "a", l[1:])
		liftsNone(t, "longer", l, long+"a")
		covers(t, "long", l, "q@q", []string{long}, true)
		covers(t, "long behind the @", l, "a@"+long, nil, true)
		covers(t, "longer", l, long+"q", []string{"b@" + long, long + "@q"}, false)
		names(t, "long", l, "a", long, "b")
	}
	covers(t, "many of both", many(5000), "q@q", slices.Repeat([]string{"r@q", "m@Q", ""}, 500), false)
	covers(t, "many of both", append(many(5000), of("last", "r@Q")), "q@q", slices.Repeat([]string{"m@Q", "", "r@q"}, 500), true)
}

func FuzzAnyBytes(f *testing.F) {
	for _, s := range append(slices.Clone(allWho), strange...) {
		f.Add("a", s, "b", "q@q", "c", "a@x.org", "q@q", s)
		f.Add(s, "", "b", "a@"+s, s, "", "a@"+s, "")
	}
	f.Fuzz(func(t *testing.T, one, oneWho, other, otherWho, name, who, from, to string) {
		l := []api.Hold{of(one, oneWho), of(other, otherWho)}
		for n := range 3 {
			holds(t, l[:n], of(name, who), one, api.Envelope{From: from, To: []string{to}})
			holds(t, l[n:], of(other, who), other, api.Envelope{From: to, To: []string{from, who}})
			holds(t, l[:n], of(name, ""), name, api.Envelope{From: who})
		}
	})
}

// P2

// given is what the calls are given in the tests of memory: lists with room behind them, in which something else stands.
type given struct {
	l     []api.Hold
	h     api.Hold
	e     api.Envelope
	texts [][]byte
}

// text is s in memory of its own, which the test can change.
func (g *given) text(s string) string {
	if s == "" {
		return ""
	}
	b := []byte(s)
	g.texts = append(g.texts, b)
	return unsafe.String(&b[0], len(b))
}

// made is a given of those holds, with room behind each list's length; what stands in it would be answered, were it read.
func made(l []api.Hold, room int) *given {
	g := &given{}
	for _, h := range l {
		g.l = append(g.l, of(g.text(h.Name), g.text(h.Who)))
	}
	g.h = of(g.text("new"), g.text("New@New.org"))
	g.e = api.Envelope{From: g.text("q@q"), To: []string{g.text("Q@Q.org"), g.text("q@Q")}}
	for i := range room {
		g.l = append(g.l, of("behind", whose("behind@q", "", "new@q")[i%3].Who))
		g.e.To = append(g.e.To, "a@x.org")
	}
	g.l, g.e.To = g.l[:len(l):len(l)+room], g.e.To[:2:2+room]
	return g
}

// same fails the test unless what was given is as what was made so, up to the end of its room.
func (g *given) same(t *testing.T, as *given) {
	t.Helper()
	if !slices.Equal(g.l[:cap(g.l)], as.l[:cap(as.l)]) || g.h != as.h || g.e.From != as.e.From || !slices.Equal(g.e.To[:cap(g.e.To)], as.e.To[:cap(as.e.To)]) {
		t.Errorf("what was given was changed: %v, %v, %v", g.l[:cap(g.l)], g.h, g.e)
	}
}

// spoil changes all texts that were given, and all holds with the room behind them.
func (g *given) spoil() {
	for _, b := range g.texts {
		for i := range b {
			b[i] = '!'
		}
	}
	for i := range g.l[:cap(g.l)] {
		g.l[:cap(g.l)][i] = of("!", "!")
	}
}

func TestArgumentsAreLeft(t *testing.T) {
	for _, l := range [][]api.Hold{nil, three()[:1], three(), many(99), many(100), append(three(), three()...)} {
		for room := range 4 {
			g, as := made(l, room), made(l, room)
			holds(t, g.l, g.h, "behind", g.e)
			holds(t, g.l, g.h, "bb", g.e)
			holds(t, g.l, of("A", ""), "", g.e)
			holds(t, g.l, of("behind", ""), "7-b", g.e)
			covers(t, "what lies behind", g.l, g.e.From, g.e.To, false)
			liftsNone(t, "what lies behind", g.l, "behind")
			for _, h := range l {
				hold.Lift(g.l, h.Name)
				holds(t, g.l, h, h.Name, api.Envelope{From: h.Who})
			}
			g.same(t, as)
		}
	}
}

// Of each length of a list, what lies behind it is neither covered by nor lifted, and its name is free.
func TestWhatLiesBehindIsNotRead(t *testing.T) {
	l := append(three(), of("all", ""))
	for n := range 4 {
		covers(t, "behind", l[:n], "q@q", nil, false)
		covers(t, "behind", l[:n], l[n].Who+"q", []string{three()[2].Who}, n == 3)
		liftsNone(t, "behind", l[:n], l[n].Name)
		places(t, "behind", l[:n], l[n])
		names(t, "behind", l[:n], called(l)[:n]...)
	}
	places(t, "behind the 99", many(200)[:99], of("many-99", ""))
	refuses(t, "behind the 100", many(200)[:100], of("many-100", ""), api.ErrLong)
	if !slices.Equal(l, append(three(), of("all", ""))) {
		t.Errorf("what was given was changed: %v", l)
	}
}

func TestAnswersShareNothingWithArguments(t *testing.T) {
	for _, l := range [][]api.Hold{nil, three()[:1], three(), many(99)} {
		for room := range 3 {
			g, as := made(l, room), made(l, room)
			placed, _ := hold.Place(g.l, g.h)
			var lifted [][]api.Hold
			for _, h := range l {
				rest, _ := hold.Lift(g.l, h.Name)
				lifted = append(lifted, rest)
			}
			told := hold.Names(g.l)
			g.spoil()
			if !slices.Equal(placed, append(slices.Clone(l), as.h)) {
				t.Errorf("Place shares memory with its arguments: %v", placed)
			}
			for at, rest := range lifted {
				if !slices.Equal(rest, without(l, at)) {
					t.Errorf("Lift shares memory with its arguments: %v", rest)
				}
			}
			if !slices.Equal(told, called(l)) {
				t.Errorf("Names shares memory with its arguments: %q", told)
			}
		}
	}
}

// texts are those of which holds are made.
func texts(l []api.Hold) []string {
	var all []string
	for _, h := range l {
		all = append(all, h.Name, h.Who)
	}
	return all
}

// overlap is whether two texts share memory.
func overlap(a, b string) bool {
	if a == "" || b == "" {
		return false
	}
	x, y := uintptr(unsafe.Pointer(unsafe.StringData(a))), uintptr(unsafe.Pointer(unsafe.StringData(b)))
	return x < y+uintptr(len(b)) && y < x+uintptr(len(a))
}

func TestAnswersShareNothingWithEachOther(t *testing.T) {
	// A text of one byte is one that the language keeps for all: these are longer.
	l, h := three(), of("new", "new@q")
	all := append(texts(l), h.Name, h.Who)
	for range 2 {
		placed, _ := hold.Place(l, h)
		lifted, _ := hold.Lift(l, "bb")
		all = append(append(append(all, texts(placed)...), texts(lifted)...), hold.Names(l)...)
	}
	for i, a := range all {
		for j, b := range all[:i] {
			if overlap(a, b) {
				t.Errorf("texts %d and %d share memory: %q", i, j, a)
			}
		}
	}
}

// What is laid over or behind one answer is seen in no other.
func TestAnswersHaveListsOfTheirOwn(t *testing.T) {
	l := three()
	placed, _ := hold.Place(l, of("new", ""))
	again, _ := hold.Place(l, of("new", ""))
	lifted, _ := hold.Lift(placed, "new")
	for _, one := range [][]api.Hold{placed, lifted} {
		one = append(one, of("behind", ""))
		for i := range one {
			one[i] = of("!", "!")
		}
		one = one[:cap(one)]
		for i := range one {
			one[i] = of("!", "!")
		}
	}
	if !slices.Equal(l, three()) || !slices.Equal(again, append(three(), of("new", ""))) {
		t.Errorf("lists share memory: %v, %v", l, again)
	}
}

// P3

func TestNilIsNothing(t *testing.T) {
	for _, l := range [][]api.Hold{nil, {}, make([]api.Hold, 0, 3), three()[:0]} {
		places(t, "nothing", l, of("a", ""))
		refuses(t, "nothing", l, of("", ""), api.ErrHold)
		liftsNone(t, "nothing", l, "")
		names(t, "nothing", l)
		for _, to := range [][]string{nil, {}, make([]string, 0, 3)} {
			covers(t, "nothing", l, "", to, false)
			covers(t, "no holds", l, "a@x.org", to, false)
			covers(t, "no recipients", three(), "q@q", to, false)
			covers(t, "no recipients", three(), "a@x.org", to, true)
			covers(t, "no recipients, everybody's", whose(""), "", to, true)
		}
	}
	lifts(t, "nothing is left", whose(""), "h0", []api.Hold{})
}

// Covers doesn't ask when a message came; no call asks what another one was given.
func TestAnswersHangOnArgumentsAlone(t *testing.T) {
	for l, h := range lists {
		_, want := hold.Place(l, h)
		for _, at := range []int64{math.MinInt64, -1, 0, 5, math.MaxInt64} {
			if !hold.Covers(three(), api.Envelope{From: "q@q", To: []string{"b@y.org"}, At: at}) || hold.Covers(three(), api.Envelope{From: "q@q", At: at}) {
				t.Fatalf("it hangs on %d", at)
			}
		}
		places(t, "in turn", three(), of("new", ""))
		lifts(t, "in turn", three(), "bb", without(three(), 1))
		if _, err := hold.Place(l, h); err != want {
			t.Fatalf("Place: got %d behind %d", err, want)
		}
	}
}
