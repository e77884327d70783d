package merkle_test

import (
	"crypto/sha256"
	"math/bits"
	"slices"
)

// The model knows trees as floors: each floor is the pairs of the one below, and a sum that has no partner goes up as it is. The chapter goes from the top down instead, so that the two have little in common but what they answer. Proofs are judged as RFC 9162 says it (2.1.3.2, 2.1.4.2), from the bits of the numbers.

// sums is a list as the package has it.
type sums = [][32]byte

func leafOf(b []byte) [32]byte { return sha256.Sum256(append([]byte{0}, b...)) }

func nodeOf(l, r [32]byte) [32]byte {
	return sha256.Sum256(slices.Concat([]byte{1}, l[:], r[:]))
}

// floors are those of a tree, the leaves ahead.
func floors(l sums) []sums {
	all := []sums{l}
	for len(l) > 1 {
		var up sums
		for i := 0; i < len(l); i += 2 {
			if i+1 < len(l) {
				up = append(up, nodeOf(l[i], l[i+1]))
			} else {
				up = append(up, l[i])
			}
		}
		l = up
		all = append(all, l)
	}
	return all
}

func rootOf(l sums) [32]byte {
	if len(l) == 0 {
		return sha256.Sum256(nil)
	}
	all := floors(l)
	return all[len(all)-1][0]
}

// partners are what stands beside the way up from that place of that floor.
func partners(all []sums, floor, at int) sums {
	var got sums
	for ; floor < len(all)-1; floor++ {
		if beside := at ^ 1; beside < len(all[floor]) {
			got = append(got, all[floor][beside])
		}
		at /= 2
	}
	return got
}

func proofOf(l sums, i int) sums { return partners(floors(l), 0, i) }

func growthOf(l sums, m int) sums {
	if m == len(l) {
		return nil
	}
	all, floor, at := floors(l), 0, m-1
	for at%2 == 1 {
		floor, at = floor+1, at/2
	}
	if at == 0 {
		return partners(all, floor, at)
	}
	return append(sums{all[floor][at]}, partners(all, floor, at)...)
}

// climb is how the RFC goes up: whether the next sum stands to the left, and the numbers a floor up.
func climb(fn, sn int) (left bool, up, last int) {
	if fn%2 == 0 && fn != sn {
		return false, fn / 2, sn / 2
	}
	for fn%2 == 0 && fn != 0 {
		fn, sn = fn/2, sn/2
	}
	return true, fn / 2, sn / 2
}

// laid is the root that a tree of n leaves has by its leaf i and the proof of that: for numbers, too, of which no tree can be laid.
func laid(n, i int, leaf [32]byte, proof sums) (root [32]byte, ok bool) {
	fn, sn := i, n-1
	root = leaf
	for _, c := range proof {
		if sn == 0 {
			return [32]byte{}, false
		}
		var left bool
		left, fn, sn = climb(fn, sn)
		if left {
			root = nodeOf(c, root)
		} else {
			root = nodeOf(root, c)
		}
	}
	return root, sn == 0
}

// laidBoth are the roots that the first m and all n leaves have by the sum at the bottom and those beside the way up.
func laidBoth(m, n int, below [32]byte, beside sums) (old, root [32]byte, ok bool) {
	fn, sn := m-1, n-1
	for fn%2 == 1 {
		fn, sn = fn/2, sn/2
	}
	old, root = below, below
	for _, c := range beside {
		if sn == 0 {
			return [32]byte{}, [32]byte{}, false
		}
		var left bool
		left, fn, sn = climb(fn, sn)
		if left {
			old, root = nodeOf(c, old), nodeOf(c, root)
		} else {
			root = nodeOf(root, c)
		}
	}
	return old, root, sn == 0
}

// power is whether a number from 1 on is one of 2.
func power(m int) bool { return bits.OnesCount(uint(m)) == 1 }

func verifies(root [32]byte, n, i int, leaf [32]byte, proof sums) bool {
	if i < 0 || i >= n {
		return false
	}
	got, ok := laid(n, i, leaf, proof)
	return ok && got == root
}

func grows(old [32]byte, m int, root [32]byte, n int, proof sums) bool {
	if m < 1 || m > n {
		return false
	}
	if m == n {
		return len(proof) == 0 && old == root
	}
	if power(m) {
		proof = slices.Concat(sums{old}, proof)
	}
	if len(proof) == 0 {
		return false
	}
	had, has, ok := laidBoth(m, n, proof[0], proof[1:])
	return ok && had == old && has == root
}
