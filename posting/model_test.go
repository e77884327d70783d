package posting_test

import (
	"encoding/binary"
	"maps"
	"math/rand/v2"
	"slices"
	"testing"
	"unsafe"

	"scriptorium/posting"
)

// set is a plain one: what the calls are held against.
type set map[int64]bool

// setOf is what stands in any of those lists.
func setOf(l ...[]int64) set {
	s := set{}
	for _, n := range slices.Concat(l...) {
		s[n] = true
	}
	return s
}

// list are those numbers of the set for which keep is true, rising.
func (s set) list(keep func(n int64) bool) []int64 {
	all := slices.Sorted(maps.Keys(s))
	return slices.DeleteFunc(all, func(n int64) bool { return !keep(n) })
}

// all is true of each number.
func all(int64) bool { return true }

// alone fails the test unless the calls that are given one list answer of l what a set tells.
func alone(t *testing.T, l []int64) {
	t.Helper()
	s := setOf(l)
	rising := s.list(all)
	if posting.Check(l) != slices.Equal(l, rising) {
		t.Fatalf("Check of %s: got %t", short(l), posting.Check(l))
	}
	are(t, "Of "+short(l), posting.Of(l), rising)
	are(t, "Merge of "+short(l), posting.Merge(l), rising)
	for _, n := range l {
		for _, near := range nums(n-1, n, n+1) {
			has(t, "a set", l, near, s[near])
		}
	}
	for _, n := range nums(least, 0, greatest) {
		has(t, "a set", l, n, s[n])
	}
}

// pair fails the test unless the calls that are given two lists answer of these what sets tell.
func pair(t *testing.T, a, b []int64) {
	t.Helper()
	x, y := setOf(a), setOf(b)
	or := setOf(a, b).list(all)
	and := x.list(func(n int64) bool { return y[n] })
	aLess := x.list(func(n int64) bool { return !y[n] })
	bLess := y.list(func(n int64) bool { return !x[n] })
	both(t, "sets", a, b, and, or, aLess, bLess)
	merges(t, "sets", [][]int64{a, b}, or...)
	if t.Failed() {
		t.FailNow()
	}
}

// laws fails the test unless the laws of sets hold between what the calls answer of those.
func laws(t *testing.T, a, b, c []int64) {
	t.Helper()
	of, and, or, less := posting.Of, posting.And, posting.Or, posting.Less
	for _, law := range []struct {
		what      string
		one, like []int64
	}{
		{"Of of what rises is that", of(of(a)), of(a)},
		{"what stands in both, whatever order", and(a, b), and(b, a)},
		{"what stands in one, whatever order", or(a, b), or(b, a)},
		{"And, put together the one way and the other", and(and(a, b), c), and(a, and(b, c))},
		{"Or, put together the one way and the other", or(or(a, b), c), or(a, or(b, c))},
		{"And of each of an Or", and(a, or(b, c)), or(and(a, b), and(a, c))},
		{"Or of each of an And", or(a, and(b, c)), and(or(a, b), or(a, c))},
		{"And of itself", and(a, a), of(a)},
		{"Or of itself", or(a, a), of(a)},
		{"And with what holds it", and(a, or(a, b)), of(a)},
		{"Or with what it holds", or(a, and(a, b)), of(a)},
		{"Less of itself", less(a, a), nil},
		{"what is taken away isn't there", and(less(a, b), b), nil},
		{"what is taken away and laid back", or(less(a, b), b), or(a, b)},
		{"the parts of a whole", or(and(a, b), less(a, b)), of(a)},
		{"the three parts of two", posting.Merge(less(a, b), and(a, b), less(b, a)), or(a, b)},
		{"And by Less alone", and(a, b), less(a, less(a, b))},
		{"Less of an Or", less(a, or(b, c)), and(less(a, b), less(a, c))},
		{"Less of an And", less(a, and(b, c)), or(less(a, b), less(a, c))},
		{"an Or of which is taken", less(or(a, b), c), or(less(a, c), less(b, c))},
		{"an And of which is taken", less(and(a, b), c), and(a, less(b, c))},
		{"one behind the other", less(less(a, b), c), less(less(a, c), b)},
		{"with nothing", or(a, nil), of(a)},
		{"without nothing", less(a, nil), of(a)},
		{"both of nothing", and(a, nil), nil},
		{"Merge is Or of all", posting.Merge(a, b, c), or(a, or(b, c))},
		{"Merge of parts", posting.Merge(posting.Merge(a, b), posting.Merge(c, a)), posting.Merge(c, b, a)},
		{"Of in the place of lists", and(of(a), of(b)), and(a, b)},
		{"Of in the place of lists", less(of(a), of(b)), less(a, b)},
	} {
		are(t, law.what+": "+short(a)+", "+short(b)+", "+short(c), law.one, law.like)
		if !posting.Check(law.one) || t.Failed() {
			t.Fatalf("%s: of %s, %s, %s: %s", law.what, short(a), short(b), short(c), short(law.one))
		}
	}
}

// members fails the test unless Has tells of each number what it tells of the lists of which an answer is made.
func members(t *testing.T, a, b []int64) {
	t.Helper()
	and, or, less := posting.And(a, b), posting.Or(a, b), posting.Less(a, b)
	for _, n := range slices.Concat(a, b, nums(least, -1, 0, 1, greatest)) {
		inA, inB := posting.Has(a, n), posting.Has(b, n)
		has(t, "And", and, n, inA && inB)
		has(t, "Or", or, n, inA || inB)
		has(t, "Less", less, n, inA && !inB)
		has(t, "Of", posting.Of(a), n, inA)
	}
}

// lot draws up to n numbers: from few that meet each other, from many, or from those at the ends of the type. Some lists of them rise.
func lot(r *rand.Rand, n int) []int64 {
	var l []int64
	wide := drawn(r, nums(1, 4, 20, 1000, greatest))
	for range r.IntN(n + 1) {
		x := r.Int64N(wide) - wide/2
		if r.IntN(20) == 0 {
			x = drawn(r, nums(least, least+1, -1, 0, 1, greatest-1, greatest))
		}
		l = append(l, x)
	}
	if r.IntN(2) == 0 {
		slices.Sort(l)
	}
	if r.IntN(2) == 0 {
		l = slices.Compact(l)
	}
	return l
}

// drawn is one of those, by lot, the same in each run.
func drawn[T any](r *rand.Rand, from []T) T { return from[r.IntN(len(from))] }

// shorts tells each list of up to n numbers, of which there are as many.
func shorts(n int) [][]int64 {
	l := [][]int64{nil}
	for begin, size := 0, 1; size <= n; size++ {
		end := len(l)
		for _, ahead := range l[begin:end] {
			for x := range int64(n) {
				l = append(l, append(slices.Clone(ahead), x))
			}
		}
		begin = end
	}
	return l
}

// P1, P18.5: all lists that are short, and many that are drawn.

func TestAllShortLists(t *testing.T) {
	for _, l := range shorts(5) {
		alone(t, l)
	}
	for _, a := range shorts(3) {
		for _, b := range shorts(3) {
			pair(t, a, b)
			members(t, a, b)
			laws(t, a, b, nums(1, 0))
		}
	}
}

func TestAnyLists(t *testing.T) {
	r := rand.New(rand.NewPCG(18, 1))
	rising, shared := 0, 0
	for range 4000 {
		a, b, c := lot(r, 12), lot(r, 12), lot(r, 6)
		alone(t, a)
		pair(t, a, b)
		members(t, a, b)
		laws(t, a, b, c)
		if posting.Check(a) {
			rising++
		}
		if len(posting.And(a, b)) > 0 {
			shared++
		}
	}
	if rising < 1000 || rising > 3000 || shared < 500 || shared > 3000 {
		t.Errorf("of the lists %d rise, %d share a number", rising, shared)
	}
}

func TestMergeOfAnyLists(t *testing.T) {
	r := rand.New(rand.NewPCG(18, 2))
	for range 5000 {
		var l [][]int64
		for range r.IntN(12) {
			l = append(l, lot(r, 9))
		}
		merges(t, "sets", l, setOf(l...).list(all)...)
		are(t, "of all at once", posting.Of(slices.Concat(l...)), posting.Merge(l...))
		var one []int64
		for _, x := range l {
			one = posting.Or(one, x)
		}
		are(t, "Merge, list by list", one, posting.Merge(l...))
	}
}

func TestLongLists(t *testing.T) {
	r := rand.New(rand.NewPCG(18, 3))
	for range 10 {
		a, b := lot(r, 3000), lot(r, 3000)
		pair(t, a, b)
		laws(t, a, b, lot(r, 300))
	}
	const n = 1 << 17
	even, odd := up(0, 2, n), up(1, 2, n)
	both(t, "long ones in turn", even, down(odd), nil, up(0, 1, 2*n), even, odd)
	both(t, "long ones alike", even, slices.Repeat(even, 2), even, even, nil, nil)
	are(t, "a long one less one", posting.Less(even, nums(2*n-2)), even[:n-1])
}

// numbers are those of which the bytes are: eight each, or, told in one byte, small ones that meet each other.
func numbers(b []byte, wide bool) []int64 {
	var l []int64
	for len(b) > 0 {
		if !wide || len(b) < 8 {
			l = append(l, int64(int8(b[0])))
			b = b[1:]
			continue
		}
		l = append(l, int64(binary.LittleEndian.Uint64(b)))
		b = b[8:]
	}
	return l
}

func FuzzAnyLists(f *testing.F) {
	f.Add([]byte{1, 2, 3}, []byte{2}, []byte{}, false)
	f.Add([]byte{3, 1, 3}, []byte{255, 0, 128}, []byte{1, 1}, false)
	f.Add([]byte{255, 255, 255, 255, 255, 255, 255, 127, 0, 0, 0, 0, 0, 0, 0, 128}, []byte{0}, []byte{}, true)
	f.Fuzz(func(t *testing.T, one, other, third []byte, wide bool) {
		a, b, c := numbers(one, wide), numbers(other, wide), numbers(third, wide)
		alone(t, a)
		pair(t, a, b)
		members(t, b, c)
		laws(t, a, b, c)
		merges(t, "sets", [][]int64{a, b, nil, c, a}, setOf(a, b, c).list(all)...)
	})
}

// P2

// roomy is a list as that one, with room behind it, in which numbers stand that would be answered, were they read.
func roomy(l []int64, room int) []int64 {
	with := append(slices.Clone(l), up(3, 2, room)...)
	return with[:len(l):len(with)]
}

// whole is l with all that lies behind it.
func whole(l []int64) []int64 { return l[:cap(l)] }

// kinds are lists on which the tests of memory stand: such as rise, and such as don't.
func kinds() [][]int64 {
	return [][]int64{nil, {2}, {1, 2}, {2, 1}, {1, 1}, {1, 2, 3, 5}, {2, 4, 5, 6, 8, 10}, {5, 4, 2}, {1, 2, 1, 2}, {-4, 0, 4}, {least, greatest}, up(0, 1, 40), down(up(0, 3, 40))}
}

// every does each call with those, and tells what it answers.
func every(a, b []int64) [][]int64 {
	l := [][]int64{posting.Of(a), posting.Of(b), posting.And(a, b), posting.Or(a, b), posting.Less(a, b), posting.Less(b, a), posting.Merge(a), posting.Merge(a, b), posting.Merge(b, a, nil, b)}
	for _, n := range nums(1, 3, least) {
		if posting.Check(a) && posting.Has(a, n) {
			l = append(l, nums(n))
		}
	}
	return l
}

// alike fails the test unless those are the same lists.
func alike(t *testing.T, what string, got, want [][]int64) {
	t.Helper()
	if !slices.EqualFunc(got, want, slices.Equal) {
		t.Fatalf("%s: got %v, want %v", what, got, want)
	}
}

func TestArgumentsAreLeft(t *testing.T) {
	for _, x := range kinds() {
		for _, y := range kinds() {
			for room := range 4 {
				a, b := roomy(x, room), roomy(y, room)
				every(a, b)
				are(t, "what was given", whole(a), whole(roomy(x, room)))
				are(t, "what was given", whole(b), whole(roomy(y, room)))
			}
		}
	}
}

// The list of lists that Merge is given stays, too: in its order, up to the end of its room.
func TestMergeLeavesItsLists(t *testing.T) {
	l := append(kinds(), nums(7), nil, nums(6, 6))
	given := make([][]int64, len(l))
	for i := range l {
		given[i] = roomy(l[i], i%3)
	}
	for n := range len(l) {
		part := given[:n]
		merges(t, "the first of them", part, setOf(l[:n]...).list(all)...)
		alike(t, "what was given", given, l)
		for i, x := range given {
			are(t, "behind what was given", whole(x), whole(roomy(l[i], i%3)))
		}
	}
}

func TestWhatLiesBehindIsNotRead(t *testing.T) {
	for _, x := range kinds() {
		for _, y := range kinds() {
			for _, room := range []int{1, 2, 7} {
				alike(t, "with room behind", every(roomy(x, room), roomy(y, room)), every(slices.Clip(x), slices.Clip(y)))
			}
		}
	}
	has(t, "behind", nums(1, 2, 3)[:2], 3, false)
	if !posting.Check(nums(1, 2, 2)[:2]) {
		t.Error("Check: what lies behind is read")
	}
}

func TestAnswersShareNothingWithArguments(t *testing.T) {
	for _, x := range kinds() {
		for _, y := range kinds() {
			a, b := roomy(x, 3), roomy(y, 3)
			got, want := every(a, b), every(x, y)
			for i := range got {
				if overlap(got[i], a) || overlap(got[i], b) {
					t.Fatalf("answer %d of %v, %v shares memory with them", i, x, y)
				}
			}
			for _, l := range [][]int64{whole(a), whole(b)} {
				for i := range l {
					l[i] = 77
				}
			}
			alike(t, "when what was given is changed", got, want)
		}
	}
}

// overlap is whether the lists share memory, with the room behind them.
func overlap(a, b []int64) bool {
	a, b = whole(a), whole(b)
	if len(a) == 0 || len(b) == 0 {
		return false
	}
	from, behind := uintptr(unsafe.Pointer(&a[0])), uintptr(unsafe.Pointer(&b[0]))
	return from < behind+uintptr(8*len(b)) && behind < from+uintptr(8*len(a))
}

func TestAnswersShareNothingWithEachOther(t *testing.T) {
	for _, x := range kinds() {
		for _, y := range kinds() {
			got := append(every(x, y), every(x, y)...)
			for i := range got {
				for j := range i {
					if overlap(got[i], got[j]) {
						t.Fatalf("answers %d and %d of %v, %v share memory", i, j, x, y)
					}
				}
				for n := range whole(got[i]) {
					whole(got[i])[n] = 77
				}
			}
			alike(t, "of lists that were there ahead", every(x, y), every(slices.Clone(x), slices.Clone(y)))
		}
	}
}

// Nor is anything that lies behind an argument handed out behind an answer.
func TestNothingIsHandedOutBehindAnswers(t *testing.T) {
	for _, x := range kinds() {
		for _, y := range kinds() {
			for _, l := range every(append(slices.Clone(x), 990, 991, 992)[:len(x)], append(slices.Clone(y), 993, 994)[:len(y)]) {
				for _, n := range whole(l)[len(l):] {
					if n >= 990 && n != greatest {
						t.Fatalf("%d is handed out behind %s", n, short(l))
					}
				}
			}
		}
	}
}

// P3

func TestNilIsNothing(t *testing.T) {
	none := [][]int64{nil, {}, make([]int64, 0, 3), nums(1, 2)[:0]}
	for _, no := range none {
		alone(t, no)
		for _, l := range append(kinds(), none...) {
			pair(t, l, no)
			laws(t, l, no, l)
			laws(t, no, l, no)
			alike(t, "nothing", every(l, no), every(l, nil))
			are(t, "nothing between", posting.Merge(no, l, no, l, no), posting.Of(l))
		}
	}
}

func TestAnswersHangOnArgumentsAlone(t *testing.T) {
	r := rand.New(rand.NewPCG(18, 4))
	want := every(nums(5, 1, 3), nums(3, 4))
	for range 2000 {
		a, b := lot(r, 9), lot(r, 9)
		once := every(a, b)
		alike(t, "in turn", every(nums(5, 1, 3), nums(3, 4)), want)
		alike(t, "again", every(a, b), once)
		alike(t, "of lists in other memory", every(roomy(a, 2), slices.Clone(b)), once)
	}
}
