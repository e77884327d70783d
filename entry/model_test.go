package entry_test

import (
	"math"
	"math/rand/v2"
	"regexp"
	"slices"
	"strconv"
	"strings"
	"testing"
	"unsafe"

	"scriptorium/api"
	"scriptorium/entry"
)

// What is at the beginning of bytes that begin with a part, what a number's digits and a class are, and what a mailbox is (lengths of its parts are counted beside it): what the calls are held against.
var (
	aLength  = regexp.MustCompile(`\A(0|[1-9][0-9]{0,6}):`)
	aNumber  = regexp.MustCompile(`\A(0|[1-9][0-9]{0,18})\z`)
	aClass   = regexp.MustCompile(`\A[a-z]{1,20}\z`)
	aMailbox = regexp.MustCompile("\\A([a-zA-Z0-9!#$%&'*+/=?^_`{|}~-]+(?:\\.[a-zA-Z0-9!#$%&'*+/=?^_`{|}~-]+)*)@([a-zA-Z0-9](?:[a-zA-Z0-9-]{0,61}[a-zA-Z0-9])?(?:\\.[a-zA-Z0-9](?:[a-zA-Z0-9-]{0,61}[a-zA-Z0-9])?)*)\\z")
)

// partOf is what the chapter says of Take, over again.
func partOf(s string) (string, string, bool) {
	found := aLength.FindStringSubmatch(s)
	if found == nil {
		return "", s, false
	}
	n, _ := strconv.Atoi(found[1])
	behind := s[len(found[0]):]
	if n > 1_000_000 || len(behind) <= n || behind[n] != ',' {
		return "", s, false
	}
	return behind[:n], behind[n+1:], true
}

// partsOf are the parts of which s is put together, if it is.
func partsOf(s string) ([]string, bool) {
	var l []string
	for s != "" {
		part, rest, ok := partOf(s)
		if !ok {
			return nil, false
		}
		l, s = append(l, part), rest
	}
	return l, true
}

// mailbox is whether s is one.
func mailbox(s string) bool {
	parts := aMailbox.FindStringSubmatch(s)
	return parts != nil && len(parts[1]) <= 64 && len(parts[2]) <= 255
}

// number is the one that digits tell, if they do, and it isn't above most.
func number(digits string, most int64) (int64, bool) {
	bound := strconv.FormatInt(most, 10)
	if !aNumber.MatchString(digits) || len(digits) > len(bound) || len(digits) == len(bound) && digits > bound {
		return 0, false
	}
	n := int64(0)
	for _, c := range digits {
		n = 10*n + int64(c-'0')
	}
	return n, true
}

// may is what the chapter says of a message, over again.
func may(m api.Message) bool {
	return m.ID > 0 && m.ID <= 1<<40 && aClass.MatchString(m.Class) && comes(m)
}

// comes is what the chapter says of Check, over again.
func comes(m api.Message) bool {
	notOne := func(s string) bool { return !mailbox(s) }
	return (m.Env.From == "" || mailbox(m.Env.From)) && len(m.Env.To) > 0 && len(m.Env.To) <= 100 && !slices.ContainsFunc(m.Env.To, notOne) && m.Env.At >= 0 && len(m.Body) <= 500_000
}

// found is what the chapter says of Decode, over again: by the parts of which s is put together.
func found(s string) (api.Message, bool) {
	l, ok := partsOf(s)
	if !ok || len(l) < 7 {
		return api.Message{}, false
	}
	id, idOK := number(l[theID], 1<<40)
	at, atOK := number(l[theAt], math.MaxInt64)
	count, countOK := number(l[theCount], 100)
	if !idOK || !atOK || !countOK || len(l) != 6+int(count) {
		return api.Message{}, false
	}
	m := of(id, l[theClass], l[theFrom], at, l[len(l)-1], l[theFirst:len(l)-1]...)
	return m, may(m)
}

// holdsMessage fails the test unless Decode answers of s what the chapter says.
func holdsMessage(t *testing.T, s string) {
	t.Helper()
	if m, ok := found(s); ok {
		encodes(t, "a model", m)
		decodes(t, "a model", s, m)
	} else {
		decodesNone(t, "a model", s)
	}
}

// holds fails the test unless the calls answer of s what the chapter says, as bytes and as a part.
func holds(t *testing.T, s string) {
	t.Helper()
	if part, rest, ok := partOf(s); ok {
		takes(t, "a model", s, part, rest)
	} else {
		takesNone(t, "a model", s)
	}
	puts(t, "a model", put(s, "", s), s, "", s)
	takes(t, "a model", put(s)+s, s, s)
	holdsMessage(t, s)
}

// holdsOf fails the test unless the calls answer of m what the chapter says.
func holdsOf(t *testing.T, m api.Message) {
	t.Helper()
	if got := entry.Check(m.Env, m.Body); (got == api.OK) != comes(m) || got != api.OK && got != api.ErrEntry {
		t.Errorf("a model: Check of %s: got %d", told(m), got)
	}
	if may(m) {
		encodes(t, "a model", m)
	} else {
		encodesNone(t, "a model", m)
	}
}

// drawn is one of those, by lot, the same in each run.
func drawn[T any](r *rand.Rand, from []T) T { return from[r.IntN(len(from))] }

// drawnOf is n of those pieces, one behind the other.
func drawnOf(r *rand.Rand, from []string, n int) string {
	var s strings.Builder
	for range n {
		s.WriteString(drawn(r, from))
	}
	return s.String()
}

// What bytes, parts and messages are put together from.
var (
	bytePieces = []string{"0", "1", "2", ":", ",", "a", "@", "b"}
	partPieces = []string{"0:,", "1:a,", "2:ab,", "1:,,", "3:0:,,", "10:", "0", "1", ":", ",", "a", "ab", "012345678"}
	textPieces = []string{"7", "0", "07", "1", "2", "3", "a", "legal", "", "a@b", "c@d", "-1", "x y", "1099511627776", "1099511627777", "9223372036854775807", "9223372036854775808"}
	ids        = []int64{1, 7, 9, 10, 1 << 32, api.MaxID - 1, api.MaxID, 0, -1, api.MaxID + 1, math.MaxInt64, math.MinInt64}
	times      = []int64{0, 1, 7, 9, 10, 1 << 32, math.MaxInt64, -1, math.MinInt64}
	classes    = []string{"a", "z", "legal", small[:20], "", "A", "a1", small[:21], "é"}
)

// message is one that looks drawn by lot: often one that may be.
func message(r *rand.Rand) api.Message {
	good := r.IntN(2) == 0
	m := of(1+r.Int64N(api.MaxID)>>r.IntN(40), drawn(r, classes[:4]), drawn(r, append([]string{""}, somebodys...)), r.Int64()>>r.IntN(63), drawnOf(r, append(partPieces, odd...), r.IntN(6)))
	for range 1 + r.IntN(5) {
		m.Env.To = append(m.Env.To, drawn(r, somebodys))
	}
	if good {
		return m
	}
	switch r.IntN(6) {
	case 0:
		m.ID = drawn(r, ids)
	case 1:
		m.Class = drawn(r, classes)
	case 2:
		m.Env.From = drawn(r, nobodys[:20])
	case 3:
		m.Env.To = slices.Repeat(m.Env.To, r.IntN(40))
	case 4:
		m.Env.To[r.IntN(len(m.Env.To))] = drawn(r, append([]string{""}, nobodys[:20]...))
	case 5:
		m.Env.At = drawn(r, times)
	}
	return m
}

// P1: any bytes.
func TestAnyBytes(t *testing.T) {
	r := rand.New(rand.NewPCG(15, 1))
	var all []string
	for c := range 256 {
		all = append(all, string([]byte{byte(c)}))
	}
	for _, from := range [][]string{bytePieces, partPieces, partPieces[:5], partPieces[5:], odd, all, append(slices.Repeat(bytePieces, 10), all...)} {
		for range 3000 {
			holds(t, drawnOf(r, from, r.IntN(12)))
		}
		for range 20 {
			holds(t, drawnOf(r, from, 100+r.IntN(2000)))
		}
	}
}

// Parts that look drawn by lot, laid as a message's are.
func TestAnyParts(t *testing.T) {
	r := rand.New(rand.NewPCG(15, 2))
	good := 0
	for range 20_000 {
		l := []string{"7", "a", "", "0", "1", "a@b", "x"}
		for range r.IntN(4) {
			at := r.IntN(len(l))
			switch r.IntN(3) {
			case 0:
				l[at] = drawn(r, textPieces)
			case 1:
				l = slices.Insert(l, at, drawn(r, textPieces))
			case 2:
				l = slices.Delete(l, at, min(at+1, len(l)-1))
			}
		}
		holds(t, put(l...))
		if _, ok := found(put(l...)); ok {
			good++
		}
	}
	if good < 3000 || good > 17_000 {
		t.Errorf("of the lists of parts %d are messages", good)
	}
}

// P1: any messages.
func TestAnyMessages(t *testing.T) {
	r := rand.New(rand.NewPCG(15, 3))
	good := 0
	for range 10_000 {
		m := message(r)
		holdsOf(t, m)
		if may(m) {
			comesBack(t, m)
			good++
		}
	}
	if good < 4000 || good > 9000 {
		t.Errorf("of the messages %d may be", good)
	}
	for _, id := range ids {
		for _, at := range times {
			for _, class := range classes {
				holdsOf(t, of(id, class, "", at, "", "a@b"))
			}
		}
	}
}

// What a change makes of a message's bytes is another one's, or nobody's.
func TestAnyChange(t *testing.T) {
	r := rand.New(rand.NewPCG(15, 4))
	for range 3000 {
		m := message(r)
		if !may(m) {
			continue
		}
		s := put(texts(m)...)
		at := r.IntN(len(s))
		holdsMessage(t, s[:at]+s[at+1:])
		holdsMessage(t, s[:at]+drawn(r, bytePieces)+s[at+1:])
		holdsMessage(t, s[:at]+drawn(r, partPieces)+s[at:])
		holdsMessage(t, s[:at]+s[at+r.IntN(len(s)-at):])
		l := texts(m)
		i, j := r.IntN(len(l)), r.IntN(len(l))
		l[i], l[j] = l[j], l[i]
		holdsMessage(t, put(l...))
		l[i] = drawn(r, l)
		holdsMessage(t, put(l...))
	}
}

// Each order of a message's parts.
func TestAnyOrder(t *testing.T) {
	l := texts(of(7, "a", "a@b", 2, "x", "c@d", "e@f"))
	good := 0
	var grow func(int)
	grow = func(n int) {
		if n == len(l) {
			s := put(l...)
			if _, ok := found(s); ok {
				good++
			}
			holdsMessage(t, s)
			return
		}
		for i := n; i < len(l); i++ {
			l[n], l[i] = l[i], l[n]
			grow(n + 1)
			l[n], l[i] = l[i], l[n]
		}
	}
	grow(0)
	// Either 2 is the count, the other two numbers are number and time, a or x is the class, the addresses stand anyhow.
	if good != 2*2*2*6 {
		t.Errorf("of the orders %d are messages", good)
	}
}

// grown does do with s and with each text that is s and up to n of those pieces.
func grown(s string, n int, from []string, do func(string)) {
	do(s)
	if n == 0 {
		return
	}
	for _, p := range from {
		grown(s+p, n-1, from, do)
	}
}

// Each text of up to so many of those bytes by which parts are told.
func TestAllShortTexts(t *testing.T) {
	check := func(s string) {
		if part, rest, ok := partOf(s); ok {
			takes(t, "a model", s, part, rest)
		} else {
			takesNone(t, "a model", s)
		}
	}
	grown("", 6, []string{"0", "1", "2", ":", ",", "a"}, check)
	grown("1", 5, []string{"0", "1", ":", ",", "a", "-"}, check)
	grown("1:7,1:a,", 6, []string{"0:,", "1:1,", "1:2,", "3:a@b,", "1:x,"}, func(s string) { holdsMessage(t, s) })
}

func FuzzAnyBytes(f *testing.F) {
	for i, s := range odd {
		f.Add(s, int64(i), "legal", "a@b", int64(i), "c@d", s)
		f.Add(put(texts(ordinary())...), int64(i), s, s, int64(-i), s, s)
	}
	f.Fuzz(func(t *testing.T, s string, id int64, class, from string, at int64, to, body string) {
		holds(t, s)
		holdsOf(t, of(id, class, from, at, body, to))
		holdsOf(t, of(1+(id&(1<<40-1)), "a", "", at, body, "a@b", to))
		holdsMessage(t, put(s, class, from, to, body, "a@b", "x"))
		holdsMessage(t, put("7", "a", "", "0", "1", "a@b", body)+s)
	})
}

// P2

// roomy is s with room behind its length, in which that stands.
func roomy(s, behind string) []byte { return []byte(s + behind)[:len(s)] }

// whole is all of b, up to the end of its room.
func whole(b []byte) string { return string(b[:cap(b)]) }

// fill writes over all of b, and over what lies behind its length.
func fill(b []byte) {
	for i := range b[:cap(b)] {
		b[:cap(b)][i] = '!'
	}
}

// What stands behind the bytes that are given would end them, or go on with them.
var behindAll = []string{",", ":", "0", "1", "0:,", "1:a,", ",1:a,", "a,", "behind all", strings.Repeat("#", 100)}

// given are bytes that are a part, a message, or none.
func given() []string {
	s := put(texts(ordinary())...)
	return append(slices.Clone(odd), "2:ab", "2:a", "2:", "2", "10:012345678", "1:7,1:a,0:,2:12,1:2,3:a@b,3:c@d,3:x,y,", "1:7,1:a,0:,2:12,1:2,3:a@b,3:c@d,3:x,y", s, s[:len(s)-1], s[:len(s)-5], s+"1:a,", put("first part", "second part"))
}

func TestBytesAreLeft(t *testing.T) {
	for _, s := range given() {
		for _, behind := range behindAll {
			b := roomy(s, behind)
			was := whole(b)
			wantPart, wantRest, ok := partOf(s)
			part, rest, took := entry.Take(b)
			if string(part) != wantPart || string(rest) != wantRest || took != ok {
				t.Errorf("Take(%s) with %s behind: got %s, %s, %v", short(s), short(behind), short(string(part)), short(string(rest)), took)
			}
			want, ok := found(s)
			m, err := entry.Decode(b)
			if got := err == api.OK; got != ok || ok && !alike(m, want) {
				t.Errorf("Decode(%s) with %s behind: got %s, %d", short(s), short(behind), told(m), err)
			}
			one := entry.Put(b)
			two := entry.Put(b, b)
			n := ordinary()
			n.Body = b
			long, _ := entry.Encode(n)
			if string(one) != put(s) || string(two) != put(s, s) || string(long) != put(texts(n)...) || entry.Check(n.Env, b) != api.OK {
				t.Errorf("%s with %s behind: got %s, %s, %s", short(s), short(behind), short(string(one)), short(string(two)), short(string(long)))
			}
			for _, answer := range [][]byte{part, rest, m.Body, one, two, long} {
				fill(answer)
			}
			if whole(b) != was {
				t.Errorf("%s with %s behind was changed: %s", short(s), short(behind), short(whole(b)))
			}
		}
	}
}

// Lists are left, too, with what lies behind their lengths: it would be too many, or none.
func TestListsAreLeft(t *testing.T) {
	for _, n := range []int{1, 2, 99, 100} {
		for _, behind := range []string{"x@y", "", "a", "behind all"} {
			to := append(many(n), behind, behind)
			m := sent("a@b", 5, to[:n]...)
			b, err := entry.Encode(m)
			if err != api.OK || string(b) != put(texts(sent("a@b", 5, many(n)...))...) || entry.Check(m.Env, m.Body) != api.OK {
				t.Errorf("%d with %q behind: got %s, %d", n, behind, short(string(b)), err)
			}
			if !slices.Equal(to, append(many(n), behind, behind)) {
				t.Errorf("%d with %q behind were changed: %q", n, behind, to)
			}
		}
	}
	for n := range 5 {
		parts := asBytes([]string{"first", "second", "", "fourth", "fifth", "sixth"})
		was := slices.Clone(parts)
		b := entry.Put(parts[:n]...)
		if want := put([]string{"first", "second", "", "fourth", "fifth", "sixth"}[:n]...); string(b) != want {
			t.Errorf("Put of the first %d: got %s, want %s", n, short(string(b)), want)
		}
		fill(b)
		for i, part := range parts {
			if len(part) > 0 && &part[0] != &was[i][0] || string(part) != []string{"first", "second", "", "fourth", "fifth", "sixth"}[i] {
				t.Errorf("Put of the first %d: part %d was changed: %q", n, i, part)
			}
		}
	}
}

// Parts may lie over each other, and in what they are taken from.
func TestPutOfPartsOfOneAnother(t *testing.T) {
	b := []byte("0123456789")
	if got := string(entry.Put(b[2:5], b[:3], b, b[5:5], b[4:])); got != put("234", "012", "0123456789", "", "456789") {
		t.Errorf("got %q", got)
	}
	if string(b) != "0123456789" {
		t.Errorf("it was changed: %q", b)
	}
}

// What was answered stays, whatever becomes of the memory in which the arguments stood.
func TestAnswersShareNothingWithArguments(t *testing.T) {
	for _, s := range given() {
		b := []byte(s)
		part, rest, _ := entry.Take(b)
		m, _ := entry.Decode(b)
		one := entry.Put(b)
		n := ordinary()
		n.Body = b
		long, _ := entry.Encode(n)
		want := put(texts(n)...)
		fill(b)
		wantPart, wantRest, _ := partOf(s)
		if string(part) != wantPart || string(rest) != wantRest {
			t.Errorf("%s: Take shares memory with it: got %s, %s", short(s), short(string(part)), short(string(rest)))
		}
		if wantMessage, ok := found(s); ok && !alike(m, wantMessage) {
			t.Errorf("%s: Decode shares memory with it: got %s", short(s), told(m))
		}
		if string(one) != put(s) || string(long) != want {
			t.Errorf("%s: Put or Encode shares memory with it: got %s, %s", short(s), short(string(one)), short(string(long)))
		}
	}
}

// overlap is whether two lists share memory, that behind their lengths with it.
func overlap(a, b []byte) bool {
	if cap(a) == 0 || cap(b) == 0 {
		return false
	}
	x, y := uintptr(unsafe.Pointer(unsafe.SliceData(a))), uintptr(unsafe.Pointer(unsafe.SliceData(b)))
	return x < y+uintptr(cap(b)) && y < x+uintptr(cap(a))
}

// bytesOf is a text's own memory. A text of one byte is one that the language keeps for all.
func bytesOf(s string) []byte {
	if len(s) < 2 {
		return nil
	}
	return unsafe.Slice(unsafe.StringData(s), len(s))
}

// memory is all in which a message stands.
func memory(m api.Message) [][]byte {
	all := [][]byte{m.Body, bytesOf(m.Class), bytesOf(m.Env.From)}
	for _, to := range m.Env.To {
		all = append(all, bytesOf(to))
	}
	return all
}

// answers are all bytes that the calls answer of b.
func answers(b []byte) [][]byte {
	part, rest, _ := entry.Take(b)
	m, _ := entry.Decode(b)
	again, _ := entry.Encode(m)
	n := ordinary()
	n.Body = b
	long, _ := entry.Encode(n)
	return append([][]byte{part, rest, again, long, entry.Put(b), entry.Put(b, b), entry.Put()}, memory(m)...)
}

func TestAnswersShareNothingWithEachOther(t *testing.T) {
	for _, s := range given() {
		b := roomy(s, "behind all")
		all := append(answers(b), answers(b)...)
		for i, x := range all {
			if overlap(x, b) {
				t.Errorf("%s: answer %d shares memory with it", short(s), i)
			}
			for j, y := range all[:i] {
				if overlap(x, y) {
					t.Errorf("%s: answers %d and %d share memory", short(s), i, j)
				}
			}
		}
	}
}

// What is laid over or behind one answer's recipients is seen in no other.
func TestRecipientsStandInListsOfTheirOwn(t *testing.T) {
	s := []byte(put(texts(ordinary())...))
	m, _ := entry.Decode(s)
	n, _ := entry.Decode(s)
	for _, to := range [][]string{append(m.Env.To, "behind@all"), m.Env.To, m.Env.To[:cap(m.Env.To)]} {
		for i := range to {
			to[i] = "!"
		}
	}
	if !alike(n, ordinary()) {
		t.Errorf("the recipients share memory: got %s", told(n))
	}
	decodes(t, "the same as ever", string(s), ordinary())
}

// What lies behind a list's length is no part of it, though it would end it.
func TestWhatLiesBehindIsNotRead(t *testing.T) {
	for _, s := range []string{put(texts(ordinary())...), put("ab", "", "0123456789"), "1:7,1:a,0:,1:0,1:1,3:a@b,0:,"} {
		b := []byte(s + ",0:,1:a,")
		for n := range len(b) + 1 {
			wantPart, wantRest, wantOK := partOf(string(b[:n]))
			if part, rest, ok := entry.Take(b[:n]); string(part) != wantPart || string(rest) != wantRest || ok != wantOK {
				t.Errorf("Take(%q): got %q, %q, %v", b[:n], part, rest, ok)
			}
			want, wantOK := found(string(b[:n]))
			if m, err := entry.Decode(b[:n]); (err == api.OK) != wantOK || wantOK && !alike(m, want) {
				t.Errorf("Decode(%q): got %s, %d", b[:n], told(m), err)
			}
		}
	}
}

// P3

func TestNilIsNothing(t *testing.T) {
	for _, b := range [][]byte{nil, {}, []byte("0:,")[:0], make([]byte, 0, 10)} {
		if part, rest, ok := entry.Take(b); len(part) != 0 || len(rest) != 0 || ok {
			t.Errorf("%#v: Take: got %q, %q, %v", b, part, rest, ok)
		}
		if m, err := entry.Decode(b); err != api.ErrEntry || !alike(m, api.Message{}) {
			t.Errorf("%#v: Decode: got %s, %d", b, told(m), err)
		}
		if got := string(entry.Put(b)); got != "0:," {
			t.Errorf("%#v: Put: got %q", b, got)
		}
		m := ordinary()
		m.Body = b
		if got, err := entry.Encode(m); err != api.OK || string(got) != put(other(theBody, "")...) || entry.Check(m.Env, b) != api.OK {
			t.Errorf("%#v: Encode: got %q, %d", b, got, err)
		}
	}
	for _, l := range [][][]byte{nil, {}, make([][]byte, 0, 3), asBytes(odd)[:0]} {
		if got := entry.Put(l...); len(got) != 0 {
			t.Errorf("%#v: Put: got %q", l, got)
		}
	}
	if got := string(entry.Put(nil, []byte{}, nil)); got != "0:,0:,0:," {
		t.Errorf("Put of nils: got %q", got)
	}
	for _, to := range [][]string{nil, {}, many(3)[:0], make([]string, 0, 3)} {
		checksNone(t, "no recipients", sent("a@b", 5, to...))
	}
}

// What a call answers doesn't hang on those ahead, nor on what became of their answers.
func TestAnswersHangOnArgumentsAlone(t *testing.T) {
	r := rand.New(rand.NewPCG(15, 5))
	for range 300 {
		b := []byte(drawn(r, given()))
		part, rest, _ := entry.Take(b)
		m, _ := entry.Decode(b)
		again, _ := entry.Encode(m)
		for _, answer := range [][]byte{part, rest, m.Body, again, entry.Put(b, b)} {
			fill(answer)
		}
		clear(m.Env.To)
		holdsOf(t, message(r))
		checks(t, "the same as ever", ordinary())
		checksNone(t, "the same as ever", sent("a", 5, "c@d"))
		decodesNone(t, "the same as ever", "0:,")
		takes(t, "the same as ever", "2:ab,x", "ab", "x")
		puts(t, "the same as ever", "2:ab,0:,", "ab", "")
	}
}
