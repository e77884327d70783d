package merkle_test

import (
	"math"
	"math/rand/v2"
	"slices"
	"strconv"
	"testing"

	"scriptorium/merkle"
)

// far are numbers that no list of leaves has: at the ends of what a number may be, and at, below and above powers of 2.
func far() []int {
	all := []int{math.MinInt, math.MinInt + 1, math.MinInt32, -2, -1, 0, math.MaxInt - 2, math.MaxInt - 1, math.MaxInt}
	for bit := 16; bit < 63; bit += 5 {
		all = append(all, 1<<bit-1, 1<<bit, 1<<bit+1)
	}
	return append(all, 1<<62-1, 1<<62, 1<<62+1, 3<<61)
}

// foreign is a sum that stands in no tree of these tests.
func foreign() [32]byte { return leafOf([]byte("not in a tree")) }

// flipped is the sum with one bit turned.
func flipped(h [32]byte, bit int) [32]byte {
	bit %= 256
	h[bit/8] ^= 1 << (bit % 8)
	return h
}

// spoiled is told each proof that is that one with a sum more, a sum less, a sum changed, or two swapped, and what was done.
func spoiled(p sums, tell func(what string, bad sums)) {
	for at := range len(p) + 1 {
		tell(name("a sum more at", at, len(p)), slices.Insert(slices.Clone(p), at, foreign()))
		tell(name("noughts more at", at, len(p)), slices.Insert(slices.Clone(p), at, [32]byte{}))
	}
	for at, h := range p {
		tell(name("a sum less at", at, len(p)), slices.Delete(slices.Clone(p), at, at+1))
		tell(name("a sum twice at", at, len(p)), slices.Insert(slices.Clone(p), at, h))
		for _, other := range [][32]byte{flipped(h, 0), flipped(h, 37*at+100), flipped(h, 255), foreign(), {}} {
			bad := slices.Clone(p)
			bad[at] = other
			tell(name("changed at", at, len(p)), bad)
		}
		if at > 0 && p[at-1] != h {
			bad := slices.Clone(p)
			bad[at-1], bad[at] = bad[at], bad[at-1]
			tell(name("swapped at", at, len(p)), bad)
		}
	}
	if len(p) > 0 {
		tell("none of it", nil)
		tell("twice all of it", slices.Concat(p, p))
	}
	if len(p) > 1 && !slices.Equal(p[1:], p[:len(p)-1]) {
		bad := slices.Clone(p)
		slices.Reverse(bad)
		tell("from its end", bad)
	}
}

// P5.4, and Verify of P5.7

func TestVerifyTakesEachProof(t *testing.T) {
	l := leaves(1025)
	for _, n := range sizes() {
		root := merkle.Root(l[:n])
		for _, i := range places(n) {
			if !merkle.Verify(root, n, i, l[i], proof(t, l[:n], i)) {
				t.Errorf("leaf %d of %d is not taken", i, n)
			}
		}
	}
}

func TestVerifyOfOne(t *testing.T) {
	a := leaves(1)[0]
	if !merkle.Verify(a, 1, 0, a, nil) || !merkle.Verify(a, 1, 0, a, sums{}) || !merkle.Verify([32]byte{}, 1, 0, [32]byte{}, nil) {
		t.Error("the one leaf is not taken")
	}
	if merkle.Verify(a, 1, 0, foreign(), nil) || merkle.Verify(foreign(), 1, 0, a, nil) || merkle.Verify(a, 1, 0, a, sums{a}) || merkle.Verify(a, 1, 1, a, nil) {
		t.Error("what isn't the one leaf is taken")
	}
}

// Of no leaves nothing is shown, by nothing.
func TestVerifyOfNone(t *testing.T) {
	root := merkle.Root(nil)
	for _, i := range []int{-1, 0, 1} {
		if merkle.Verify(root, 0, i, root, nil) || merkle.Verify(root, 0, i, root, sums{root}) || merkle.Verify(root, -1, i, root, nil) {
			t.Errorf("leaf %d of none is taken", i)
		}
	}
}

func TestVerifyRefusesSpoiledProofs(t *testing.T) {
	l := leaves(129)
	for _, n := range []int{1, 2, 3, 4, 5, 6, 7, 8, 9, 12, 13, 15, 16, 17, 21, 31, 32, 33, 63, 64, 65, 127, 128, 129} {
		root := merkle.Root(l[:n])
		for i := range n {
			spoiled(proof(t, l[:n], i), func(what string, bad sums) {
				if merkle.Verify(root, n, i, l[i], bad) {
					t.Errorf("leaf %d of %d: %s: it is taken", i, n, what)
				}
			})
		}
	}
}

func TestVerifyRefusesAnotherLeafOrRoot(t *testing.T) {
	l := leaves(33)
	for n := 1; n <= len(l); n++ {
		root := merkle.Root(l[:n])
		for i := range n {
			p := proof(t, l[:n], i)
			for j := range n {
				if j != i && (merkle.Verify(root, n, i, l[j], p) || merkle.Verify(root, n, j, l[j], p)) {
					t.Errorf("leaf %d of %d: %d is taken for it", i, n, j)
				}
				if j+1 < n && merkle.Verify(merkle.Root(l[:j+1]), n, i, l[i], p) {
					t.Errorf("leaf %d of %d: the root of %d is taken for all", i, n, j+1)
				}
			}
			for _, other := range [][32]byte{foreign(), {}, merkle.Root(nil), flipped(root, i), flipped(root, 255-i)} {
				if merkle.Verify(other, n, i, l[i], p) {
					t.Errorf("leaf %d of %d: another root is taken", i, n)
				}
			}
			for _, other := range [][32]byte{foreign(), {}, root, flipped(l[i], n), flipped(l[i], 255-n)} {
				if other != l[i] && merkle.Verify(root, n, i, other, p) {
					t.Errorf("leaf %d of %d: another leaf is taken", i, n)
				}
			}
		}
	}
}

// A bit of any of its arguments that is turned shows.
func TestVerifyReadsEachBit(t *testing.T) {
	l := leaves(6)
	root, p := merkle.Root(l), proof(t, l, 4)
	for bit := range 256 {
		if merkle.Verify(flipped(root, bit), 6, 4, l[4], p) || merkle.Verify(root, 6, 4, flipped(l[4], bit), p) {
			t.Errorf("bit %d of the root or of the leaf isn't read", bit)
		}
		for at := range p {
			bad := slices.Clone(p)
			bad[at] = flipped(bad[at], bit)
			if merkle.Verify(root, 6, 4, l[4], bad) {
				t.Errorf("bit %d of sum %d isn't read", bit, at)
			}
		}
	}
}

// Another number of leaves is taken just where the way to the leaf has the same turns.
func TestVerifyOfAnotherNumber(t *testing.T) {
	l := leaves(40)
	for n := 1; n <= len(l); n++ {
		root := merkle.Root(l[:n])
		for i := range n {
			p := proof(t, l[:n], i)
			for _, m := range append(far(), places(len(l)+1)...) {
				if got, want := merkle.Verify(root, m, i, l[i], p), verifies(root, m, i, l[i], p); got != want {
					t.Errorf("leaf %d of %d, as of %d: got %v", i, n, m, got)
				}
			}
			for _, j := range append(far(), n, n+1, 2*n, -i) {
				if j != i && merkle.Verify(root, n, j, l[i], p) {
					t.Errorf("leaf %d of %d, as leaf %d: it is taken", i, n, j)
				}
			}
		}
	}
	three := leaves(3)
	if merkle.Verify(merkle.Root(three), 2, 0, three[0], proof(t, three, 0)) || merkle.Verify(merkle.Root(three), 5, 0, three[0], proof(t, three, 0)) {
		t.Error("leaf 0 of three is taken as one of two, or of five")
	}
}

// A tree inside the tree, or above it, is another tree.
func TestVerifyRefusesNodesAsLeaves(t *testing.T) {
	l := leaves(8)
	root, p := merkle.Root(l), proof(t, l, 0)
	two, four := merkle.Root(l[:2]), merkle.Root(l[:4])
	if merkle.Verify(root, 8, 0, two, p[1:]) || merkle.Verify(root, 8, 0, four, p[2:]) || merkle.Verify(root, 8, 0, root, nil) {
		t.Error("a node is taken for a leaf")
	}
	if merkle.Verify(four, 8, 0, l[0], p[:2]) || merkle.Verify(merkle.Node(root, foreign()), 8, 0, l[0], append(p, foreign())) {
		t.Error("a root below or above is taken for that of all")
	}
}

// Trees of numbers that no list has are still gone down: with sums that are drawn by lot in the place of theirs.
func TestVerifyOfFarNumbers(t *testing.T) {
	all := drawnSums(8, 70)
	leaf := foreign()
	for _, n := range far() {
		for _, i := range append(far(), n-1, n-2, n/2, n/3, 1, 2) {
			for size := range 66 {
				root, ok := laid(n, i, leaf, all[:size])
				ok = ok && i >= 0 && i < n
				if got := merkle.Verify(root, n, i, leaf, all[:size]); got != ok {
					t.Errorf("leaf %d of %d by %d sums: got %v", i, n, size, got)
				}
				if ok && (merkle.Verify(flipped(root, size), n, i, leaf, all[:size]) || merkle.Verify(root, n, i, leaf, all[:size+1])) {
					t.Errorf("leaf %d of %d: another root, or a sum more, is taken", i, n)
				}
			}
		}
	}
}

// P5.6, and Grown of P5.7

func TestGrownTakesEachGrowth(t *testing.T) {
	l := leaves(1025)
	for _, n := range sizes() {
		root := merkle.Root(l[:n])
		for _, i := range places(n) {
			m := i + 1
			if !merkle.Grown(merkle.Root(l[:m]), m, root, n, growth(t, l[:n], m)) {
				t.Errorf("%d of %d is not taken", m, n)
			}
		}
	}
}

// Of all leaves it is whether both roots are alike, with nothing in the proof.
func TestGrownOfAll(t *testing.T) {
	a := foreign()
	for _, n := range append(far(), 1, 2, 3, 4, 5, 7, 8, 9, 1000) {
		want := n > 0
		if got := merkle.Grown(a, n, a, n, nil); got != want {
			t.Errorf("%d of %d: got %v", n, n, got)
		}
		if got := merkle.Grown(a, n, a, n, sums{}); got != want {
			t.Errorf("%d of %d, an empty list: got %v", n, n, got)
		}
		if merkle.Grown(a, n, flipped(a, 7), n, nil) || merkle.Grown(flipped(a, 255), n, a, n, nil) {
			t.Errorf("%d of %d: unlike roots are taken", n, n)
		}
		if merkle.Grown(a, n, a, n, sums{a}) || merkle.Grown(a, n, a, n, sums{{}}) || merkle.Grown(a, n, a, n, sums{a, a}) {
			t.Errorf("%d of %d: a sum too many is taken", n, n)
		}
	}
}

func TestGrownRefusesSpoiledProofs(t *testing.T) {
	l := leaves(129)
	for _, n := range []int{1, 2, 3, 4, 5, 6, 7, 8, 9, 12, 13, 15, 16, 17, 21, 31, 32, 33, 63, 64, 65, 127, 128, 129} {
		root := merkle.Root(l[:n])
		for m := 1; m <= n; m++ {
			old := merkle.Root(l[:m])
			g := growth(t, l[:n], m)
			spoiled(g, func(what string, bad sums) {
				if merkle.Grown(old, m, root, n, bad) {
					t.Errorf("%d of %d: %s: it is taken", m, n, what)
				}
			})
			if m < n && merkle.Grown(old, m, root, n, append(sums{old}, g...)) {
				t.Errorf("%d of %d: the old root ahead of it: it is taken", m, n)
			}
		}
	}
}

func TestGrownRefusesOtherRoots(t *testing.T) {
	l := leaves(33)
	for n := 1; n <= len(l); n++ {
		root := merkle.Root(l[:n])
		for m := 1; m <= n; m++ {
			old, g := merkle.Root(l[:m]), growth(t, l[:n], m)
			for _, other := range [][32]byte{foreign(), {}, merkle.Root(nil), flipped(old, m), flipped(root, n), l[m-1]} {
				if other != old && merkle.Grown(other, m, root, n, g) {
					t.Errorf("%d of %d: another root of the first ones is taken", m, n)
				}
				if other != root && merkle.Grown(old, m, other, n, g) {
					t.Errorf("%d of %d: another root of all is taken", m, n)
				}
			}
			if m < n && (merkle.Grown(root, m, root, n, g) || merkle.Grown(old, m, old, n, g) || merkle.Grown(root, m, old, n, g)) {
				t.Errorf("%d of %d: one root for both, or both the other way round, are taken", m, n)
			}
		}
	}
}

func TestGrownReadsEachBit(t *testing.T) {
	l := leaves(13)
	for _, m := range []int{1, 4, 5, 6, 8, 11, 12} {
		old, root, g := merkle.Root(l[:m]), merkle.Root(l), growth(t, l, m)
		for bit := range 256 {
			if merkle.Grown(flipped(old, bit), m, root, 13, g) || merkle.Grown(old, m, flipped(root, bit), 13, g) {
				t.Errorf("%d of 13: bit %d of a root isn't read", m, bit)
			}
			for at := range g {
				bad := slices.Clone(g)
				bad[at] = flipped(bad[at], bit)
				if merkle.Grown(old, m, root, 13, bad) {
					t.Errorf("%d of 13: bit %d of sum %d isn't read", m, bit, at)
				}
			}
		}
	}
}

// Leaves of which the first ones are others have grown from something else: what their own proof tells isn't of these.
func TestGrownRefusesAnotherBeginning(t *testing.T) {
	l := leaves(33)
	for n := 2; n <= len(l); n++ {
		for m := 1; m < n; m++ {
			old, g := merkle.Root(l[:m]), growth(t, l[:n], m)
			for _, at := range []int{0, m / 2, m - 1} {
				other := slices.Clone(l[:n])
				other[at] = foreign()
				p, root := growth(t, other, m), merkle.Root(other)
				if merkle.Grown(old, m, root, n, p) || merkle.Grown(old, m, root, n, g) {
					t.Errorf("%d of %d: leaf %d is another one, and it is taken", m, n, at)
				}
			}
		}
	}
}

// Other numbers are taken just where the way has the same turns.
func TestGrownOfOtherNumbers(t *testing.T) {
	l := leaves(34)
	for n := 1; n <= len(l); n++ {
		root := merkle.Root(l[:n])
		for m := 1; m <= n; m++ {
			old, g := merkle.Root(l[:m]), growth(t, l[:n], m)
			for _, other := range append(far(), places(len(l)+2)...) {
				if got, want := merkle.Grown(old, other, root, n, g), grows(old, other, root, n, g); got != want {
					t.Errorf("%d of %d, as %d: got %v", m, n, other, got)
				}
				if got, want := merkle.Grown(old, m, root, other, g), grows(old, m, root, other, g); got != want {
					t.Errorf("%d of %d, as of %d: got %v", m, n, other, got)
				}
			}
		}
	}
}

func TestGrownOfNoBeginning(t *testing.T) {
	l := leaves(9)
	for n := range l {
		root := merkle.Root(l[:n])
		for _, m := range []int{math.MinInt, -n, -1, 0, n + 1, n + 2, math.MaxInt} {
			if merkle.Grown(root, m, root, n, nil) || merkle.Grown(root, m, root, n, sums{root}) || merkle.Grown(merkle.Root(nil), m, root, n, nil) {
				t.Errorf("%d of %d is taken", m, n)
			}
		}
	}
}

func TestGrownOfFarNumbers(t *testing.T) {
	all := drawnSums(9, 70)
	for _, n := range far() {
		for _, m := range append(far(), n-1, n-2, n/2, n/3, 1, 2, 3) {
			if m < 1 || m >= n {
				if merkle.Grown(all[0], m, all[1], n, all[2:4]) {
					t.Errorf("%d of %d is taken", m, n)
				}
				continue
			}
			for size := range 66 {
				old, root, ok := laidBoth(m, n, foreign(), all[:size])
				p := slices.Concat(sums{foreign()}, all[:size])
				if power(m) {
					p = p[1:]
				}
				if got := merkle.Grown(old, m, root, n, p); got != ok {
					t.Errorf("%d of %d by %d sums: got %v", m, n, len(p), got)
				}
				if ok && (merkle.Grown(flipped(old, size), m, root, n, p) || merkle.Grown(old, m, flipped(root, size), n, p) || merkle.Grown(old, m, root, n, append(p, foreign()))) {
					t.Errorf("%d of %d: another root, or a sum more, is taken", m, n)
				}
			}
		}
	}
}

// P5.7

// pool is each sum that stands in the tree, once, and one that doesn't.
func pool(l sums) sums {
	var all sums
	for _, floor := range floors(l) {
		for _, h := range floor {
			if !slices.Contains(all, h) {
				all = append(all, h)
			}
		}
	}
	return append(all, foreign())
}

// lists tells each list of that many sums of the pool.
func lists(all sums, size int, tell func(l sums)) {
	var more func(l sums)
	more = func(l sums) {
		if len(l) == size {
			tell(l)
			return
		}
		for _, h := range all {
			more(append(slices.Clone(l), h))
		}
	}
	more(nil)
}

// Of all that can be put together from the tree's own sums just the leaf and its Proof are taken: any other would show two unlike texts with one sum.
func TestVerifyTakesNothingElse(t *testing.T) {
	for n := 1; n <= 5; n++ {
		l := leaves(n)
		root, all := merkle.Root(l), pool(l)
		for size := range 4 {
			lists(all, size, func(p sums) {
				for i := range n {
					for _, leaf := range all {
						want := leaf == l[i] && slices.Equal(p, proofOf(l, i))
						if got := merkle.Verify(root, n, i, leaf, p); got != want {
							t.Errorf("leaf %d of %d, %x by %v: got %v", i, n, leaf, shown(p), got)
						}
					}
				}
			})
		}
	}
}

// Likewise just the old root and the Growth.
func TestGrownTakesNothingElse(t *testing.T) {
	for n := 1; n <= 5; n++ {
		l := leaves(n)
		root, all := merkle.Root(l), pool(l)
		for size := range 4 {
			lists(all, size, func(p sums) {
				for m := 1; m <= n; m++ {
					for _, old := range append(sums{rootOf(l[:m])}, all...) {
						want := old == rootOf(l[:m]) && slices.Equal(p, growthOf(l, m))
						if got := merkle.Grown(old, m, root, n, p); got != want {
							t.Errorf("%d of %d, %x by %v: got %v", m, n, old, shown(p), got)
						}
					}
				}
			})
		}
	}
}

// The rules of all layers

// Any numbers, any lists: each call ends, and Verify and Grown answer as the model does.
func TestAnyArguments(t *testing.T) {
	r := rand.New(rand.NewPCG(10, 10))
	l := leaves(20)
	all := append(far(), 1, 2, 3, 4, 5, 7, 8, 9, 16, 17, 19, 20)
	one := func() int { return all[r.IntN(len(all))] }
	for range 20000 {
		n, i := one(), one()
		p := slices.Clone(l[:r.IntN(len(l)+1)])
		r.Shuffle(len(p), func(a, b int) { p[a], p[b] = p[b], p[a] })
		a, b := l[r.IntN(len(l))], l[r.IntN(len(l))]
		if got, want := merkle.Verify(a, n, i, b, p), verifies(a, n, i, b, p); got != want {
			t.Errorf("Verify of leaf %d of %d by %d sums: got %v", i, n, len(p), got)
		}
		if got, want := merkle.Grown(a, i, b, n, p), grows(a, i, b, n, p); got != want {
			t.Errorf("Grown of %d of %d by %d sums: got %v", i, n, len(p), got)
		}
		merkle.Root(p)
		merkle.Proof(p, i)
		merkle.Growth(p, i)
	}
}

// A proof that is longer than any way is refused, whatever its length.
func TestLongProofs(t *testing.T) {
	long := slices.Repeat(drawnSums(11, 1), 100000)
	for _, n := range append(far(), 1, 2, 3, 100) {
		if merkle.Verify(long[0], n, 0, long[0], long) || merkle.Verify(long[0], n, n-1, long[0], long) {
			t.Errorf("Verify in %s leaves: it is taken", strconv.Itoa(n))
		}
		if merkle.Grown(long[0], 1, long[0], n, long) || merkle.Grown(long[0], n-1, long[0], n, long) || merkle.Grown(long[0], n, long[0], n, long) {
			t.Errorf("Grown to %s leaves: it is taken", strconv.Itoa(n))
		}
	}
}
