package query_test

import (
	"slices"
	"strings"
	"testing"
	"unsafe"

	"scriptorium/api"
	"scriptorium/path"
	"scriptorium/query"
)

// P1

// One that stands within itself, one that is very deep, one that has very many parts though few are laid: all end.
func TestQueriesWithoutAnEnd(t *testing.T) {
	for kind := -1; kind <= 10; kind++ {
		for n := 1; n <= 3; n++ {
			l := make([]api.Query, n)
			for i := range l {
				l[i] = api.Query{Op: kind, Kids: l}
			}
			nowhere(t, "within itself", api.Query{Op: kind, Kids: l})
			l[0] = a
			if n > 1 {
				nowhere(t, "within itself, behind a word", l[1])
			}
			for other := api.QTerm; other <= api.QNot; other++ {
				l[n-1] = api.Query{Op: other, Kids: []api.Query{{Op: kind, Kids: l}}}
				nowhere(t, "in turn within itself", l[n-1])
			}
		}
		deep := api.Query{Op: kind, Kids: []api.Query{a}}
		wide := a
		for range 1 << 16 {
			deep = api.Query{Op: kind, Kids: []api.Query{deep}}
		}
		for range 60 {
			wide = api.Query{Op: kind, Kids: []api.Query{wide, wide, wide, wide}}
		}
		nowhere(t, "very deep", deep)
		nowhere(t, "very many parts", wide)
	}
	// Or and and in turn: only every other one has brackets.
	turn, narrow := and(a, b), a
	for range 1 << 15 {
		turn = and(or(turn, c), d)
		narrow = api.Query{Op: api.QAnd, Kids: []api.Query{{Op: api.QOr, Kids: []api.Query{narrow}}}}
	}
	nowhere(t, "very deep, in turn", turn)
	nowhere(t, "very deep, one kid each", narrow)
	nowhere(t, "very many that are nothing", and(make([]api.Query, 1<<20)...))
	nowhere(t, "very many words that are nothing", or(slices.Repeat([]api.Query{term("")}, 1<<20)...))
	nowhere(t, "very many words that are nothing", not(slices.Repeat([]api.Query{term("")}, 1<<20)...))
}

func TestHoldsOfAnyDocument(t *testing.T) {
	long := api.Doc{Terms: slices.Repeat([]string{"b"}, 1<<20), From: strings.Repeat("@", 1<<20), To: slices.Repeat([]string{"x"}, 1<<20)}
	for _, d := range append(slices.Clone(documents), long, api.Doc{Terms: []string{"\xff"}, From: "\xff@\xff", To: []string{"@", "@@", "\x00"}}) {
		for _, s := range []string{"a", "from:", "to:", "from:a@b", "to:a@b", "before:0", "after:0", "a b", "a or b", "not a"} {
			q, _, _ := query.Parse(s)
			holds(t, s, d, truth(q, d))
		}
		for _, q := range []api.Query{{}, and(), or(), not(), and(a), not(a, b), term(""), from("x"), before(-1)} {
			if query.Holds(q, d) {
				t.Errorf("%s holds of %d terms", told(q), len(d.Terms))
			}
		}
	}
}

// P2

// bytesOf is a text's own memory. A text of one byte is one that the language keeps for all.
func bytesOf(s string) []byte {
	if len(s) < 2 {
		return nil
	}
	return unsafe.Slice(unsafe.StringData(s), len(s))
}

// kidsOf is the memory of a list of kids, that behind its length with it.
func kidsOf(l []api.Query) []byte {
	if cap(l) == 0 {
		return nil
	}
	return unsafe.Slice((*byte)(unsafe.Pointer(unsafe.SliceData(l))), cap(l)*int(unsafe.Sizeof(l[:1][0])))
}

// textsOf is the memory of a list of texts, that behind its length with it.
func textsOf(l []string) []byte {
	if cap(l) == 0 {
		return nil
	}
	return unsafe.Slice((*byte)(unsafe.Pointer(unsafe.SliceData(l))), cap(l)*int(unsafe.Sizeof("")))
}

// memory is all in which q stands.
func memory(q api.Query) [][]byte {
	all := [][]byte{bytesOf(q.Text), kidsOf(q.Kids)}
	for _, k := range q.Kids {
		all = append(all, memory(k)...)
	}
	return all
}

// memoryOf is all in which a document stands.
func memoryOf(d api.Doc) [][]byte {
	all := [][]byte{bytesOf(d.From), textsOf(d.Terms), textsOf(d.To)}
	for _, s := range slices.Concat(d.Terms, d.To) {
		all = append(all, bytesOf(s))
	}
	return all
}

// overlap is whether two pieces of memory share some.
func overlap(x, y []byte) bool {
	if len(x) == 0 || len(y) == 0 {
		return false
	}
	p, q := uintptr(unsafe.Pointer(&x[0])), uintptr(unsafe.Pointer(&y[0]))
	return p < q+uintptr(len(y)) && q < p+uintptr(len(x))
}

// apart fails the test if two of those pieces share memory.
func apart(t *testing.T, what string, all [][]byte) {
	t.Helper()
	for i, x := range all {
		for j, y := range all[:i] {
			if overlap(x, y) {
				t.Errorf("%s: pieces %d and %d share memory: %q", what, j, i, x)
			}
		}
	}
}

func TestAnswersShareNothing(t *testing.T) {
	for _, s := range []string{"word", "from:", "from:ab@cd", "to:Jo@X.Org or from:ab@cd", "word word (word or other) not not word", "((word))", "before:7", "word )", "(", "xx@yy", "not (first second) or (third or fourth)"} {
		p, _, _ := query.Parse(s)
		q, _, _ := query.Parse(s)
		all := slices.Concat([][]byte{bytesOf(s)}, memory(p), memory(q))
		if query.Check(p) {
			x, y := query.Show(p), query.Show(p)
			all = append(all, bytesOf(x), bytesOf(y))
		}
		apart(t, s, all)
	}
	m := message("first second First", "Jo@X.Org", 7, "ab@cd", "ef@gh", "ab@cd")
	x, y := query.Doc(m), query.Doc(m)
	given := [][]byte{bytesOf(m.Env.From), m.Body, textsOf(m.Env.To)}
	for _, addr := range m.Env.To[:2] {
		given = append(given, bytesOf(addr))
	}
	apart(t, "Doc", slices.Concat(given, memoryOf(x), memoryOf(y)))
}

// What becomes of an answer is seen in no other one.
func TestAnswersAreOnesOwn(t *testing.T) {
	const s = "a (b or c) not from:x@y"
	want := and(a, or(b, c), not(from("x@y")))
	q, _, _ := query.Parse(s)
	var spoil func(l []api.Query)
	spoil = func(l []api.Query) {
		for i := range l[:cap(l)] {
			spoil(l[:cap(l)][i].Kids)
			l[:cap(l)][i] = api.Query{Op: 77}
		}
	}
	p, _, _ := query.Parse(s)
	spoil(q.Kids)
	if !alike(p, want) {
		t.Errorf("answers share memory: got %s", told(p))
	}
	parses(t, "the same as ever", s, want)
	m := message("b a", "x@y", 7, "c@d", "e@f")
	x, y := query.Doc(m), query.Doc(m)
	for _, l := range [][]string{x.Terms, x.To} {
		for i := range l[:cap(l)] {
			l[:cap(l)][i] = "!"
		}
	}
	if !same(y, query.Doc(m)) || !same(y, api.Doc{Terms: []string{"a", "b"}, From: "x@y", To: []string{"c@d", "e@f"}, At: 7}) {
		t.Errorf("documents share memory: got %s", toldDoc(y))
	}
}

// Nothing that is given is changed, and what lies behind a list's length is neither read nor changed.
func TestArgumentsAreLeft(t *testing.T) {
	for _, behind := range []api.Query{b, {}, {Op: 9}, not(a), and(a)} {
		inner := []api.Query{b, c, behind, behind}
		outer := []api.Query{a, or(inner[:2]...), not(inner[:1]...), behind, behind}
		q := and(outer[:3]...)
		shows(t, "with more behind", q, "a (b or c) not b")
		for _, d := range documents {
			if want := truth(q, d); query.Holds(q, d) != want {
				t.Errorf("with more behind: of %s: got %v", toldDoc(d), !want)
			}
		}
		showsNone(t, "one kid, with more behind", or(outer[:1]...))
		showsNone(t, "no kid, with more behind", not(outer[:0]...))
		shows(t, "a word, with more behind", api.Query{Op: api.QTerm, Text: "a", Kids: outer[:0]}, "a")
		if !alike(and(outer...), and(a, or(b, c), not(b), behind, behind)) || !alike(or(inner...), or(b, c, behind, behind)) {
			t.Errorf("they were changed: %s, %s", told(and(outer...)), told(or(inner...)))
		}
	}
	terms, to := []string{"b", "a", "c", "d"}, []string{"X@Y", "p@Q", "r@s", "t@u"}
	d := api.Doc{Terms: terms[:2], From: "X@Y", To: to[:2], At: 7}
	for s, want := range map[string]bool{"a": true, "c": false, "from:X@y": true, "to:X@y": true, "to:p@q": true, "to:r@s": false, "d or to:t@u": false} {
		holds(t, s, d, want)
	}
	if !slices.Equal(terms, []string{"b", "a", "c", "d"}) || !slices.Equal(to, []string{"X@Y", "p@Q", "r@s", "t@u"}) || d.From != "X@Y" {
		t.Errorf("the document was changed: %q, %q", terms, to)
	}
	body := []byte("B a more")
	m := api.Message{Env: api.Envelope{From: "X@Y", To: to[:2], At: 7}, Body: body[:3]}
	if got := query.Doc(m); !same(got, api.Doc{Terms: []string{"a", "b"}, From: "X@Y", To: []string{"X@Y", "p@Q"}, At: 7}) {
		t.Errorf("Doc with more behind: got %s", toldDoc(got))
	}
	if string(body) != "B a more" || !slices.Equal(to, []string{"X@Y", "p@Q", "r@s", "t@u"}) {
		t.Errorf("the message was changed: %q, %q", body, to)
	}
}

// P3

func TestNilIsNothing(t *testing.T) {
	for _, l := range [][]string{nil, {}, make([]string, 0, 3), many[:0]} {
		d := api.Doc{Terms: l, To: l}
		for s, want := range map[string]bool{"a": false, "to:": false, "to:x@y": false, "from:": true, "not a": true} {
			holds(t, s, d, want)
		}
		for _, body := range [][]byte{nil, {}, []byte("word")[:0]} {
			if got := query.Doc(api.Message{Env: api.Envelope{To: l}, Body: body}); !same(got, api.Doc{}) {
				t.Errorf("Doc of nothing: got %s", toldDoc(got))
			}
		}
	}
}

// What a call answers hangs on its arguments alone.
func TestAnswersHangOnArgumentsAlone(t *testing.T) {
	for _, s := range append(slices.Clone(many), "(((", strings.Repeat("not ", 31), strings.Repeat("a", 1001), "a or b") {
		query.Parse(s)
		query.Check(api.Query{Op: api.QAnd, Kids: []api.Query{term(s)}})
		parses(t, "the same as ever", "a b or not c", or(and(a, b), not(c)))
		unfit(t, "the same as ever", "a (b or)", 7)
		tooOpen(t, "the same as ever", strings.Repeat("(", 31), 30)
		shows(t, "the same as ever", not(and(a, b)), "not (a b)")
		showsNone(t, "the same as ever", and(a))
		holds(t, "from:x@y", api.Doc{From: "x@Y"}, true)
	}
}

// What Parse takes as an address is one of layer 7, folded as that does.
func TestAddressesAreThoseOfPath(t *testing.T) {
	for _, s := range append([]string{"", "a@b", "A@B", "a..b@c", "a@b@c", "Jo.Doe@X-Y.Org", "a@B_C"}, strange...) {
		if s == "" || path.Mailbox(s) {
			parses(t, "an address", "from:"+s, from(path.Fold(s)))
			parses(t, "an address", "to:"+s, to(path.Fold(s)))
		} else {
			unfit(t, "none", "from:"+s, 0)
			unfit(t, "none", "to:"+s, 0)
		}
	}
}
