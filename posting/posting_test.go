package posting_test

import (
	"math"
	"slices"
	"strconv"
	"testing"

	"scriptorium/posting"
)

// The least and the greatest number of the type.
const (
	least    = math.MinInt64
	greatest = math.MaxInt64
)

// nums is a list of its own.
func nums(l ...int64) []int64 { return l }

// short is l as a test tells it.
func short(l []int64) string {
	s := "["
	for _, n := range l[:min(len(l), 12)] {
		s += strconv.FormatInt(n, 10) + " "
	}
	return s + "] of " + strconv.Itoa(len(l))
}

// are fails the test unless got is want.
func are(t *testing.T, what string, got, want []int64) {
	t.Helper()
	if !slices.Equal(got, want) {
		t.Errorf("%s: got %s, want %s", what, short(got), short(want))
	}
}

// rises fails the test unless Check answers want of l, and Of what stands in it.
func rises(t *testing.T, what string, l []int64, want bool, of ...int64) {
	t.Helper()
	if posting.Check(l) != want {
		t.Errorf("%s: Check of %s: got %t", what, short(l), !want)
	}
	are(t, what+": Of "+short(l), posting.Of(l), of)
	if !posting.Check(posting.Of(l)) {
		t.Errorf("%s: Of %s doesn't rise", what, short(l))
	}
}

// up are n numbers that rise by step from that one on.
func up(from, step int64, n int) []int64 {
	var l []int64
	for i := range n {
		l = append(l, from+step*int64(i))
	}
	return l
}

// down is l the other way round, in memory of its own.
func down(l []int64) []int64 {
	l = slices.Clone(l)
	slices.Reverse(l)
	return l
}

// P18.1

func TestOfNothing(t *testing.T) {
	rises(t, "nil", nil, true)
	rises(t, "nothing", []int64{}, true)
	rises(t, "nothing, with room", make([]int64, 0, 5), true)
}

func TestOfOneNumber(t *testing.T) {
	for _, n := range nums(0, 1, -1, 7, least, least+1, greatest-1, greatest) {
		rises(t, "one", nums(n), true, n)
		rises(t, "one, twice", nums(n, n), false, n)
		rises(t, "one, three times", nums(n, n, n), false, n)
	}
}

func TestOfTwoNumbers(t *testing.T) {
	for _, l := range [][]int64{{0, 1}, {1, 2}, {-1, 0}, {-2, -1}, {-1, 1}, {3, 900}, {least, least + 1}, {least, -1}, {least, 0}, {least, 1}, {least, greatest}, {-1, greatest}, {0, greatest}, {greatest - 1, greatest}} {
		rises(t, "two", l, true, l...)
		rises(t, "two that fall", down(l), false, l...)
		rises(t, "the first twice", nums(l[0], l[0], l[1]), false, l...)
		rises(t, "the last twice", nums(l[0], l[1], l[1]), false, l...)
		rises(t, "there and back", nums(l[0], l[1], l[0]), false, l...)
		rises(t, "both twice", nums(l[1], l[0], l[1], l[0]), false, l...)
	}
}

func TestOfNumbersThatRise(t *testing.T) {
	rises(t, "by one", up(1, 1, 9), true, up(1, 1, 9)...)
	rises(t, "below 0", up(-20, 3, 6), true, up(-20, 3, 6)...)
	rises(t, "over 0", up(-4, 2, 5), true, -4, -2, 0, 2, 4)
	rises(t, "from end to end", nums(least, -5, 0, 5, greatest), true, least, -5, 0, 5, greatest)
	rises(t, "very many", up(-50000, 1, 100000), true, up(-50000, 1, 100000)...)
}

func TestOfNumbersThatFall(t *testing.T) {
	rises(t, "by one", down(up(1, 1, 9)), false, up(1, 1, 9)...)
	rises(t, "below 0", down(up(-20, 3, 6)), false, up(-20, 3, 6)...)
	rises(t, "from end to end", nums(greatest, 5, 0, -5, least), false, least, -5, 0, 5, greatest)
	rises(t, "very many", down(up(-50000, 1, 100000)), false, up(-50000, 1, 100000)...)
}

// One number alone breaks the rule: at the beginning, in the middle, at the end.
func TestOfNumbersThatRiseButForOne(t *testing.T) {
	l := up(-6, 3, 5)
	for i := range l {
		for _, n := range slices.Concat(nums(least, greatest), up(-8, 1, 20)) {
			with := slices.Insert(slices.Clone(l), i, n)
			fits := n < l[i] && (i == 0 || n > l[i-1])
			want := append(slices.Clone(l), n)
			slices.Sort(want)
			rises(t, "with "+strconv.FormatInt(n, 10), with, fits, slices.Compact(want)...)
		}
	}
}

func TestOfAnyOrder(t *testing.T) {
	rises(t, "the chapter's way", nums(3, 1, 3), false, 1, 3)
	rises(t, "up and down", nums(1, 5, 2, 4, 3), false, 1, 2, 3, 4, 5)
	rises(t, "piece by piece", nums(7, 8, 9, 4, 5, 6, 1, 2, 3), false, 1, 2, 3, 4, 5, 6, 7, 8, 9)
	rises(t, "the same piece again", nums(1, 2, 3, 1, 2, 3, 1, 2, 3), false, 1, 2, 3)
	rises(t, "below 0", nums(0, -3, 3, -1, 1, -2, 2), false, -3, -2, -1, 0, 1, 2, 3)
	rises(t, "the ends of the type", nums(greatest, 0, least, -1, greatest, 1, least), false, least, -1, 0, 1, greatest)
	rises(t, "one, very often", slices.Repeat(nums(4), 10000), false, 4)
	rises(t, "two, very often", slices.Repeat(nums(4, -4), 10000), false, -4, 4)
}

// P18.2

// both fails the test unless And, Or and Less answer this of a and b, and of b and a.
func both(t *testing.T, what string, a, b, and, or, aLess, bLess []int64) {
	t.Helper()
	what += ": " + short(a) + ", " + short(b)
	are(t, what+": And", posting.And(a, b), and)
	are(t, what+": And the other way round", posting.And(b, a), and)
	are(t, what+": Or", posting.Or(a, b), or)
	are(t, what+": Or the other way round", posting.Or(b, a), or)
	are(t, what+": Less", posting.Less(a, b), aLess)
	are(t, what+": Less the other way round", posting.Less(b, a), bLess)
}

func TestExample(t *testing.T) {
	are(t, "the chapter's example", posting.Less(nums(1, 2, 3), nums(2)), nums(1, 3))
}

func TestTwoListsOrdinary(t *testing.T) {
	both(t, "two", nums(1, 2, 3, 5), nums(2, 4, 5), nums(2, 5), nums(1, 2, 3, 4, 5), nums(1, 3), nums(4))
	both(t, "below 0", nums(-5, -3, 0), nums(-4, -3, 7), nums(-3), nums(-5, -4, -3, 0, 7), nums(-5, 0), nums(-4, 7))
	both(t, "one each", nums(1), nums(2), nil, nums(1, 2), nums(1), nums(2))
}

func TestListsWithNothing(t *testing.T) {
	for _, no := range [][]int64{nil, {}, make([]int64, 0, 4)} {
		both(t, "nothing at all", no, no, nil, nil, nil, nil)
		both(t, "nothing and nil", no, nil, nil, nil, nil, nil)
		for _, l := range [][]int64{{1}, {least}, {greatest}, {1, 2, 3}, {-7, 0, 7}, {least, greatest}} {
			both(t, "nothing", l, no, nil, l, l, nil)
			both(t, "nothing, falling", down(l), no, nil, l, l, nil)
		}
		both(t, "nothing, twice", nums(4, 4), no, nil, nums(4), nums(4), nil)
	}
}

func TestAListWithItself(t *testing.T) {
	for _, l := range [][]int64{{5}, {0}, {-5}, {least}, {greatest}, {1, 2}, {1, 2, 3}, {least, -1, 0, 1, greatest}, up(-9, 5, 40)} {
		both(t, "itself", l, l, l, l, nil, nil)
		both(t, "another one that is as it", l, slices.Clone(l), l, l, nil, nil)
		both(t, "itself, falling", down(l), down(l), l, l, nil, nil)
		both(t, "itself the other way round", l, down(l), l, l, nil, nil)
		both(t, "itself twice", slices.Repeat(l, 2), l, l, l, nil, nil)
	}
}

func TestListsThatShareNothing(t *testing.T) {
	for _, l := range [][2][]int64{{{1, 2, 3}, {4, 5, 6}}, {{1, 3, 5}, {2, 4, 6}}, {{1, 6}, {2, 3, 4, 5}}, {{-3, -2}, {2, 3}}, {{least}, {greatest}}, {{least, greatest}, {-1, 0, 1}}} {
		or := slices.Concat(l[0], l[1])
		slices.Sort(or)
		both(t, "none shared", l[0], l[1], nil, or, l[0], l[1])
		both(t, "none shared, falling", down(l[0]), down(l[1]), nil, or, l[0], l[1])
	}
}

func TestAListThatHoldsTheOther(t *testing.T) {
	all := nums(-4, -2, 0, 2, 4)
	for from := range all {
		for to := from + 1; to <= len(all); to++ {
			part := all[from:to]
			rest := slices.Concat(all[:from], all[to:])
			both(t, "a piece", all, part, part, all, rest, nil)
			both(t, "a piece, falling", down(all), part, part, all, rest, nil)
			both(t, "all but a piece", all, rest, rest, all, part, nil)
		}
	}
	both(t, "each second one", all, nums(-4, 0, 4), nums(-4, 0, 4), all, nums(-2, 2), nil)
	both(t, "the ends", nums(least, 0, greatest), nums(least, greatest), nums(least, greatest), nums(least, 0, greatest), nums(0), nil)
}

// Each list ends in the middle of the other one: at a number that the other has, and between two.
func TestListsThatEndInTheMiddle(t *testing.T) {
	both(t, "at one that both have", nums(1, 2, 3), nums(3, 4, 5), nums(3), nums(1, 2, 3, 4, 5), nums(1, 2), nums(4, 5))
	both(t, "over two that both have", nums(1, 2, 3), nums(2, 3, 4), nums(2, 3), nums(1, 2, 3, 4), nums(1), nums(4))
	both(t, "between two", nums(1, 3, 5), nums(2, 3, 4, 6), nums(3), nums(1, 2, 3, 4, 5, 6), nums(1, 5), nums(2, 4, 6))
	both(t, "the first in the other", nums(3, 4), nums(1, 3, 5, 7), nums(3), nums(1, 3, 4, 5, 7), nums(4), nums(1, 5, 7))
	for n := range 6 {
		a, b := up(1, 1, 5), up(int64(n)+1, 1, 5)
		both(t, "later by "+strconv.Itoa(n), a, b, a[n:], up(1, 1, 5+n), a[:n], b[5-n:])
	}
}

// Lists that Check refuses, as the one, as the other, as both.
func TestListsThatAreRefused(t *testing.T) {
	for _, a := range [][]int64{{1, 2, 3, 5}, {5, 3, 2, 1}, {1, 1, 2, 3, 5}, {1, 2, 3, 5, 5}, {2, 1, 5, 3}, {5, 1, 2, 3, 5, 1}} {
		for _, b := range [][]int64{{2, 4, 5}, {5, 4, 2}, {2, 2, 4, 5}, {2, 4, 5, 5}, {4, 5, 2}, {2, 5, 4, 2, 5, 4}} {
			both(t, "two", a, b, nums(2, 5), nums(1, 2, 3, 4, 5), nums(1, 3), nums(4))
			merges(t, "two", [][]int64{a, b}, 1, 2, 3, 4, 5)
			merges(t, "three", [][]int64{b, a, b}, 1, 2, 3, 4, 5)
		}
	}
	both(t, "what stands twice in one stands in one alone", nums(2, 2), nums(3, 3), nil, nums(2, 3), nums(2), nums(3))
	both(t, "three times", nums(2, 2, 2), nums(2), nums(2), nums(2), nil, nil)
	both(t, "the ends of the type", nums(greatest, least, greatest), nums(0, least, 0), nums(least), nums(least, 0, greatest), nums(greatest), nums(0))
}

// P18.3

// merges fails the test unless Merge answers want of the lists, in their order and the other way round.
func merges(t *testing.T, what string, l [][]int64, want ...int64) {
	t.Helper()
	are(t, what+": Merge", posting.Merge(l...), want)
	l = slices.Clone(l)
	slices.Reverse(l)
	are(t, what+": Merge the other way round", posting.Merge(l...), want)
}

func TestMergeOfNoList(t *testing.T) {
	are(t, "no list", posting.Merge(), nil)
	merges(t, "nil", nil)
	merges(t, "none", [][]int64{})
	merges(t, "none, with room", make([][]int64, 0, 3))
	merges(t, "one that is nil", [][]int64{nil})
	merges(t, "some of nothing", [][]int64{{}, nil, {}, nil})
}

func TestMergeOfOne(t *testing.T) {
	merges(t, "one", [][]int64{{1, 2, 3}}, 1, 2, 3)
	merges(t, "one of one", [][]int64{{-8}}, -8)
	merges(t, "one that falls", [][]int64{{3, 2, 1}}, 1, 2, 3)
	merges(t, "one that has one twice", [][]int64{{1, 1}}, 1)
	merges(t, "one from end to end", [][]int64{{least, 0, greatest}}, least, 0, greatest)
}

func TestMergeOfTwo(t *testing.T) {
	merges(t, "ordinary", [][]int64{{1, 2, 3, 5}, {2, 4, 5}}, 1, 2, 3, 4, 5)
	merges(t, "behind one another", [][]int64{{1, 2}, {3, 4}}, 1, 2, 3, 4)
	merges(t, "in turn", [][]int64{{1, 3, 5}, {2, 4, 6}}, 1, 2, 3, 4, 5, 6)
	merges(t, "alike", [][]int64{{1, 2}, {1, 2}}, 1, 2)
	merges(t, "below 0", [][]int64{{-9, 9}, {-8, 0}}, -9, -8, 0, 9)
	merges(t, "the ends of the type", [][]int64{{least, greatest}, {least, 0, greatest}}, least, 0, greatest)
	merges(t, "nothing and one", [][]int64{nil, {7}}, 7)
}

func TestMergeOfMany(t *testing.T) {
	merges(t, "three", [][]int64{{1, 2, 3, 5}, {2, 4, 5}, {0, 9}}, 0, 1, 2, 3, 4, 5, 9)
	merges(t, "empty ones between others", [][]int64{nil, {3}, {}, nil, {1}, {}, {2}, nil}, 1, 2, 3)
	merges(t, "ones that share numbers", [][]int64{{1, 2, 3}, {2, 3, 4}, {3, 4, 5}, {1, 3, 5}}, 1, 2, 3, 4, 5)
	merges(t, "ones that are refused", [][]int64{{3, 1}, {2, 2}, {5, 4, 5}, {1}, {greatest, least}}, least, 1, 2, 3, 4, 5, greatest)
	var ones, turns [][]int64
	for i := range 1000 {
		ones = append(ones, nums(int64((i*7)%1000)), nil)
		turns = append(turns, up(int64(i), 1000, 20))
	}
	merges(t, "very many of one", ones, up(0, 1, 1000)...)
	merges(t, "very many in turn", turns, up(0, 1, 20000)...)
	merges(t, "very many alike", slices.Repeat([][]int64{up(-5, 1, 10)}, 1000), up(-5, 1, 10)...)
}

// P18.4

// has fails the test unless Has answers want.
func has(t *testing.T, what string, l []int64, n int64, want bool) {
	t.Helper()
	if posting.Has(l, n) != want {
		t.Errorf("%s: Has %d in %s: got %t", what, n, short(l), !want)
	}
}

func TestHasOfNothing(t *testing.T) {
	for _, l := range [][]int64{nil, {}, make([]int64, 0, 3)} {
		for _, n := range nums(0, 1, -1, least, greatest) {
			has(t, "nothing", l, n, false)
		}
	}
}

func TestHasOfOne(t *testing.T) {
	for _, one := range nums(0, 1, -1, least, greatest) {
		for _, n := range nums(0, 1, -1, 2, -2, least, least+1, greatest-1, greatest) {
			has(t, "one", nums(one), n, n == one)
			has(t, "one, twice", nums(one, one), n, n == one)
		}
	}
}

// Each number that is there, between two, ahead of the first and behind the last.
func TestHasOfMany(t *testing.T) {
	for _, size := range []int{2, 3, 4, 5, 8, 100} {
		l := up(-10, 4, size)
		for i, n := range l {
			has(t, "there", l, n, true)
			has(t, "below it", l, n-1, false)
			has(t, "above it", l, n+1, false)
			has(t, "taken out", slices.Delete(slices.Clone(l), i, i+1), n, false)
		}
		for _, n := range nums(least, -14, l[size-1]+4, greatest) {
			has(t, "outside", l, n, false)
		}
	}
	ends := nums(least, 0, greatest)
	for _, n := range ends {
		has(t, "an end of the type", ends, n, true)
	}
	has(t, "next to an end", ends, least+1, false)
	has(t, "next to an end", ends, greatest-1, false)
}

func TestHasOfAListThatIsRefused(t *testing.T) {
	for _, l := range [][]int64{{3, 1}, {9, 7, 5, 3, 1}, {1, 3, 1, 3}, {3, 3, 1, 1}, {1, 9, 3}, {5, 1, 9, 3, 7}, {1, 5, 7, 9, 3}, {3, 5, 7, 9, 1}} {
		has(t, "falling", l, 1, true)
		has(t, "falling", l, 3, true)
		has(t, "falling", l, 9, slices.Contains(l, 9))
		for _, n := range nums(0, 2, 4, 8, 10, -1, least, greatest) {
			has(t, "falling", l, n, false)
		}
	}
}
