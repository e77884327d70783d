package seal_test

import (
	"crypto/sha256"
	"math"
	"math/rand/v2"
	"slices"
	"testing"

	"scriptorium/api"
	"scriptorium/merkle"
	"scriptorium/seal"
)

// segmentOf and leavesOf are the number and the leaves of the seal at that place of the chain that the tests go through: numbers are left out, there are none, one, and many leaves.
func segmentOf(i int) int { return 10*i + 10 }

func leavesOf(i int) sums { return leaves(i * 7 % 5) }

// linked is a chain of n with those leaves, each Prev worked out by the model.
func linked(t *testing.T, n int, held func(i int) sums) []api.Seal {
	t.Helper()
	l := make([]api.Seal, n)
	var prev [32]byte
	for i := range l {
		l[i] = of(t, segmentOf(i), held(i), prev)
		prev = sumOf(l[i])
	}
	return l
}

func seals(t *testing.T, n int) []api.Seal {
	t.Helper()
	return linked(t, n, leavesOf)
}

// chainOf is Chain as the words have it, said from the end: of the last seal is asked only if all ahead of it are a chain.
func chainOf(l []api.Seal) int {
	if len(l) == 0 {
		return 0
	}
	n := len(l) - 1
	if at := chainOf(l[:n]); at < n {
		return at
	}
	seg, prev := 0, [32]byte{}
	if n > 0 {
		seg, prev = l[n-1].Seg, sumOf(l[n-1])
	}
	if l[n].Seg > seg && l[n].Prev == prev {
		return n + 1
	}
	return n
}

// breaks fails the test unless the chain is broken at that place, its length if nowhere.
func breaks(t *testing.T, what string, l []api.Seal, want int) {
	t.Helper()
	if got := seal.Chain(l); got != want {
		t.Errorf("%s: got %d, want %d", what, got, want)
	}
}

// with is the chain with that seal at that place.
func with(l []api.Seal, at int, s api.Seal) []api.Seal {
	l = slices.Clone(l)
	l[at] = s
	return l
}

// again is the chain with each Prev from that place on worked out anew.
func again(l []api.Seal, from int) []api.Seal {
	l = slices.Clone(l)
	for i := max(from, 1); i < len(l); i++ {
		l[i].Prev = sumOf(l[i-1])
	}
	return l
}

// P6.4

func TestChainOfNone(t *testing.T) {
	breaks(t, "nil", nil, 0)
	breaks(t, "empty", []api.Seal{}, 0)
	breaks(t, "none of three", seals(t, 3)[:0], 0)
}

func TestChainOfOne(t *testing.T) {
	for _, seg := range append(inside(), api.MaxSeg+1, math.MaxInt) {
		breaks(t, "a first one", []api.Seal{{Seg: seg, Count: 5, Root: foreign()}}, 1)
	}
	for _, seg := range []int{0, -1, -1 << 32, -1<<32 + 1, math.MinInt} {
		breaks(t, "its segment isn't above 0", []api.Seal{{Seg: seg, Count: 5, Root: foreign()}}, 0)
	}
	for bit := range 256 {
		breaks(t, "its Prev isn't noughts", []api.Seal{{Seg: 1, Prev: flipped([32]byte{}, bit)}}, 0)
	}
	for _, prev := range [][32]byte{full(), foreign(), sha256.Sum256(nil), sumOf(api.Seal{})} {
		breaks(t, "its Prev isn't noughts", []api.Seal{{Seg: 1, Prev: prev}}, 0)
	}
	breaks(t, "noughts alone", []api.Seal{{}}, 0)
}

func TestChainOfMany(t *testing.T) {
	for n := range 30 {
		breaks(t, "a whole one", seals(t, n), n)
	}
	breaks(t, "many", seals(t, 2000), 2000)
	near := slices.Repeat([]api.Seal{{}}, 300)
	for i := range near {
		near[i].Seg = i + 1
	}
	breaks(t, "segments one behind the other", again(near, 1), 300)
	breaks(t, "from 1 to MaxSeg", again([]api.Seal{{Seg: 1}, {Seg: api.MaxSeg}}, 1), 2)
}

// A seal that is cut off its chain is no first one.
func TestChainFromWithin(t *testing.T) {
	l := seals(t, 8)
	for i := 1; i < len(l); i++ {
		breaks(t, "the beginning is gone", l[i:], 0)
	}
	for i := range l {
		breaks(t, "the end is gone", l[:i], i)
	}
}

func TestChainBrokenBySeg(t *testing.T) {
	const n = 8
	l := seals(t, n)
	for i := 1; i < n; i++ {
		for _, seg := range []int{l[i-1].Seg, l[i-1].Seg - 1, l[0].Seg, 1, 0, -1, -l[i].Seg, l[i].Seg - 1<<32, math.MinInt} {
			s := l[i]
			s.Seg = seg
			breaks(t, name("a segment not above", i, seg), with(l, i, s), i)
			breaks(t, name("a segment not above, with what follows bound to it", i, seg), again(with(l, i, s), i), i)
		}
		s := l[i]
		s.Seg = l[i-1].Seg + 1
		breaks(t, name("a segment just above", i, s.Seg), again(with(l, i, s), i), n)
		s.Seg = l[min(i+1, n-1)].Seg
		want := i + 1
		if i == n-1 {
			want = n
		}
		breaks(t, name("a segment just like the next", i, s.Seg), again(with(l, i, s), i), want)
	}
	for _, seg := range []int{0, -1, math.MinInt} {
		s := l[0]
		s.Seg = seg
		breaks(t, name("the first segment", 0, seg), again(with(l, 0, s), 1), 0)
	}
}

func TestChainBrokenByPrev(t *testing.T) {
	const n = 6
	l := seals(t, n)
	for i := range l {
		for bit := range 256 {
			s := l[i]
			s.Prev = flipped(s.Prev, bit)
			breaks(t, name("a bit of Prev", i, bit), again(with(l, i, s), i+1), i)
		}
		others := [][32]byte{foreign(), full(), l[i].Root, sumOf(l[i])}
		for j := range l {
			if j != i-1 {
				others = append(others, sumOf(l[j]), l[max(j, 1)].Root)
			}
		}
		if i > 0 {
			others = append(others, [32]byte{}, l[i-1].Root, l[i-1].Prev)
		}
		for _, prev := range others {
			if prev == l[i].Prev {
				continue
			}
			s := l[i]
			s.Prev = prev
			breaks(t, name("another Prev", i, 0), with(l, i, s), i)
			breaks(t, name("another Prev, with what follows bound to it", i, 0), again(with(l, i, s), i+1), i)
		}
	}
}

// Where it is broken twice, the first place is told, whichever of the two it is broken by.
func TestChainBrokenTwice(t *testing.T) {
	const n = 7
	l := seals(t, n)
	for i := range l {
		for j := i; j < n; j++ {
			bad := slices.Clone(l)
			bad[i].Prev = foreign()
			bad[j].Seg = 0
			breaks(t, name("by Prev, by Seg", i, j), bad, i)
			bad = slices.Clone(l)
			bad[i].Seg = 0
			bad[j].Prev = full()
			breaks(t, name("by Seg, by Prev", i, j), bad, i)
		}
	}
}

// What a seal tells of itself binds the next one: it is there that the change shows.
func TestChainOfChangedSeals(t *testing.T) {
	const n = 5
	l := seals(t, n)
	for i := range l {
		for _, s := range changed(l[i]) {
			bad := with(l, i, s)
			want := i + 1
			switch {
			case s.Prev != l[i].Prev || s.Seg <= 0 || i > 0 && s.Seg <= l[i-1].Seg:
				want = i
			case i == n-1:
				want = n
			}
			breaks(t, name("changed", i, n), bad, want)
		}
	}
}

func TestChainOfSwappedSeals(t *testing.T) {
	l := seals(t, 7)
	for i := range l {
		for j := i + 1; j < len(l); j++ {
			bad := slices.Clone(l)
			bad[i], bad[j] = bad[j], bad[i]
			breaks(t, name("swapped", i, j), bad, i)
		}
		breaks(t, name("twice", i, i), slices.Insert(slices.Clone(l), i, l[i]), i+1)
		want := i
		if i == len(l)-1 {
			want = len(l) - 1
		}
		breaks(t, name("taken out", i, i), slices.Delete(slices.Clone(l), i, i+1), want)
	}
}

// Chain asks of Seg and Prev alone: numbers are held against each other whole, whatever their bytes tell of them.
func TestChainOfAnyNumbers(t *testing.T) {
	rising := []int{1, api.MaxSeg, api.MaxSeg + 1, math.MaxUint32, 1 << 32, 1<<32 + 1, 1<<33 + 1, math.MaxInt - 1, math.MaxInt}
	l := make([]api.Seal, len(rising))
	for i, seg := range rising {
		l[i] = api.Seal{Seg: seg, Count: bounds()[7*i] - 3, Root: foreign()}
	}
	breaks(t, "segments above MaxSeg", again(l, 1), len(l))
	breaks(t, "a segment whose bytes alone rise", again([]api.Seal{{Seg: 1<<32 + 1}, {Seg: 2}}, 1), 1)
	breaks(t, "a segment whose bytes are alike", again([]api.Seal{{Seg: 2}, {Seg: 1<<32 + 2}}, 1), 2)
	breaks(t, "a Count below 0", again([]api.Seal{{Seg: 1, Count: -1}, {Seg: 2, Count: math.MinInt}}, 1), 2)
}

// Chains that are drawn by lot, of seals that mostly fit: each is held against the model.
func TestChainAgainstModel(t *testing.T) {
	r := rand.New(rand.NewPCG(9, 6))
	for range 5000 {
		l := make([]api.Seal, r.IntN(6))
		for i := range l {
			l[i].Seg = r.IntN(4) + 2*i
			l[i].Count = r.IntN(3)
			if i > 0 && r.IntN(8) > 0 {
				l[i].Prev = sumOf(l[i-1])
			} else if r.IntN(8) == 0 {
				l[i].Prev = foreign()
			}
		}
		breaks(t, "drawn", l, chainOf(l))
	}
}

// P6.5

// held fails the test unless whether the seal holds these leaves is what is wanted.
func held(t *testing.T, what string, s api.Seal, l sums, want bool) {
	t.Helper()
	if got := seal.Holds(s, l); got != want {
		t.Errorf("%s: %v, %d leaves: got %v", what, s, len(l), got)
	}
}

func TestHoldsItsOwn(t *testing.T) {
	l := leaves(300)
	for n := range l {
		for _, seg := range []int{1, 2, api.MaxSeg} {
			held(t, "its own", of(t, seg, l[:n], foreign()), l[:n], true)
		}
	}
	for _, none := range []sums{nil, {}} {
		held(t, "none", of(t, 1, nil, foreign()), none, true)
	}
	held(t, "many", of(t, 9, leaves(50001), full()), leaves(50001), true)
	// Not made by Of, but just like it.
	held(t, "made by hand", api.Seal{Seg: 4, Count: 1, Root: l[0]}, l[:1], true)
	held(t, "none, made by hand", api.Seal{Seg: 4, Root: sha256.Sum256(nil)}, nil, true)
}

func TestHoldsNoOtherLeaves(t *testing.T) {
	const n = 33
	l := leaves(n + 1)
	for size := range n {
		own := l[:size]
		s := of(t, 3, own, foreign())
		for other := range n {
			held(t, "more or fewer", s, l[:other], other == size)
		}
		held(t, "one more", s, append(slices.Clone(own), foreign()), false)
		held(t, "noughts more", s, append(slices.Clone(own), [32]byte{}), false)
		held(t, "one more ahead", s, slices.Concat(sums{foreign()}, own), false)
		for i := range own {
			for _, leaf := range [][32]byte{foreign(), {}, full(), l[size], flipped(l[i], i), flipped(l[i], 255-i)} {
				bad := slices.Clone(own)
				bad[i] = leaf
				held(t, name("changed", i, size), s, bad, false)
			}
			held(t, name("taken out", i, size), s, slices.Delete(slices.Clone(own), i, i+1), false)
			held(t, name("twice", i, size), s, slices.Insert(slices.Clone(own), i, own[i]), false)
			for j := range i {
				bad := slices.Clone(own)
				bad[i], bad[j] = bad[j], bad[i]
				held(t, name("swapped", i, j), s, bad, false)
			}
		}
	}
}

// Leaves and their Nodes have one Root, but not one Count.
func TestHoldsNoNodes(t *testing.T) {
	l := leaves(4)
	two := sums{merkle.Node(l[0], l[1]), merkle.Node(l[2], l[3])}
	one := sums{merkle.Root(l)}
	all := []sums{l, two, one}
	for i, own := range all {
		s := of(t, 3, own, foreign())
		for j, other := range all {
			held(t, name("nodes", i, j), s, other, i == j)
		}
	}
	held(t, "the root of none as a leaf", of(t, 3, nil, foreign()), sums{sha256.Sum256(nil)}, false)
	held(t, "no leaf for the root of none", of(t, 3, sums{sha256.Sum256(nil)}, foreign()), nil, false)
}

// Its Seg, so long as it may be one, and its Prev are whatever they are: it is Of these. Its Count and its Root are the leaves'.
func TestHoldsOfChangedSeals(t *testing.T) {
	for _, n := range []int{0, 1, 2, 5, 8} {
		l := leaves(n)
		s := of(t, 5, l, foreign())
		for _, other := range changed(s) {
			want := other.Count == s.Count && other.Root == s.Root && other.Seg >= 1 && other.Seg <= api.MaxSeg
			held(t, "changed", other, l, want)
		}
		for _, seg := range inside() {
			other := s
			other.Seg = seg
			held(t, "another segment", other, l, true)
		}
		for _, seg := range outside() {
			other := s
			other.Seg = seg
			held(t, "no segment", other, l, false)
		}
		for _, count := range bounds() {
			other := s
			other.Count = count
			held(t, "another count", other, l, count == n)
		}
	}
}

// Beside its error Of answers a seal of noughts: that one holds nothing, nor does any other of no segment.
func TestHoldsNothing(t *testing.T) {
	for _, l := range []sums{nil, {}, {{}}, leaves(1), leaves(4)} {
		held(t, "noughts", api.Seal{}, l, false)
		for _, seg := range outside() {
			held(t, "no segment", api.Seal{Seg: seg}, l, false)
			held(t, "no segment", api.Seal{Seg: seg, Count: len(l), Root: merkle.Root(l)}, l, false)
		}
	}
}

// P6.6

// pool is each sum that stands in the trees of these leaves, once, and some that don't.
func pool(l sums) sums {
	all := sums{foreign(), {}, sha256.Sum256(nil)}
	for i := range l {
		for j := i + 1; j <= len(l); j++ {
			if root := merkle.Root(l[i:j]); !slices.Contains(all, root) {
				all = append(all, root)
			}
		}
	}
	return all
}

// lists tells each list of that many sums of the pool.
func lists(all sums, size int, tell func(l sums)) {
	var more func(l sums)
	more = func(l sums) {
		if len(l) == size {
			tell(l)
			return
		}
		for _, h := range all {
			more(append(slices.Clone(l), h))
		}
	}
	more(nil)
}

// Of all that can be put together from the trees' own sums each seal holds just its leaves.
func TestNoOtherLeavesAreHeld(t *testing.T) {
	for n := range 5 {
		own := leaves(n)
		s := of(t, 3, own, foreign())
		all := pool(own)
		for size := range 4 {
			lists(all, size, func(l sums) {
				held(t, name("put together", size, n), s, l, slices.Equal(l, own))
			})
		}
	}
}

// A whole chain whose seals hold their leaves: who changes a leaf has to change the seal, and with it each one behind it, up to the last one's sum.
func TestChangedLeavesShow(t *testing.T) {
	const n = 6
	own := func(i int) sums { return leaves(i%4 + 1) }
	l := linked(t, n, own)
	last := sumOf(l[n-1])
	for i := range n {
		held(t, name("its leaves", i, n), l[i], own(i), true)
		others := []sums{nil, own(i)[1:], append(own(i), foreign()), own(i + 1), append(own(i)[1:], foreign())}
		for k, other := range others {
			held(t, name("other leaves", i, k), l[i], other, false)
			bad := with(l, i, of(t, l[i].Seg, other, l[i].Prev))
			held(t, name("sealed anew", i, k), bad[i], other, true)
			for from := i + 1; from < n; from++ {
				breaks(t, name("sealed anew up to there", i, from), bad, from)
				bad[from].Prev = sumOf(bad[from-1])
			}
			breaks(t, name("all sealed anew", i, k), bad, n)
			if seal.Sum(bad[n-1]) == last {
				t.Errorf("place %d: other leaves, all sealed anew: the last sum is the same", i)
			}
		}
	}
}

// Another seal ahead of one, whatever it holds, breaks the chain at that one.
func TestAnotherSealAheadShows(t *testing.T) {
	const n = 6
	l := seals(t, n)
	for i := 1; i < n; i++ {
		ahead := l[i-1]
		for _, seg := range []int{ahead.Seg - 1, ahead.Seg, ahead.Seg + 1} {
			for size := range 6 {
				s := of(t, seg, leaves(size), ahead.Prev)
				want := i
				if s == ahead {
					want = n
				}
				breaks(t, name("another one ahead", i, size), with(l, i-1, s), want)
			}
		}
		s := of(t, ahead.Seg+1, leaves(2), sumOf(ahead))
		breaks(t, name("one between", i, n), slices.Insert(slices.Clone(l), i, s), i+1)
	}
}
