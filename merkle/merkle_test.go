package merkle_test

import (
	"bytes"
	"crypto/sha256"
	"encoding/hex"
	"math"
	"math/rand/v2"
	"slices"
	"strconv"
	"testing"

	"scriptorium/api"
	"scriptorium/merkle"
)

// leaves are the leaves of the texts 0, 1, 2 ..: no two of them alike.
func leaves(n int) sums {
	l := make(sums, n)
	for i := range l {
		l[i] = leafOf([]byte(strconv.Itoa(i)))
	}
	return l
}

// usual are the leaves of the eight texts with which trees of RFC 6962 are tried everywhere.
func usual(t *testing.T) sums {
	t.Helper()
	var l sums
	for _, s := range []string{"", "00", "10", "2021", "3031", "40414243", "5051525354555657", "606162636465666768696a6b6c6d6e6f"} {
		b, err := hex.DecodeString(s)
		if err != nil {
			t.Fatal(err)
		}
		l = append(l, merkle.Leaf(b))
	}
	return l
}

// drawn is n bytes that look drawn by lot, the same in each run.
func drawn(seed uint64, n int) []byte {
	r := rand.New(rand.NewPCG(seed, 5))
	b := make([]byte, n)
	for i := range b {
		b[i] = byte(r.Uint32())
	}
	return b
}

// drawnSums is n sums of that kind, which are those of no text.
func drawnSums(seed uint64, n int) sums {
	b := drawn(seed, 32*n)
	l := make(sums, n)
	for i := range l {
		l[i] = [32]byte(b[32*i:])
	}
	return l
}

// sizes are the numbers of leaves that are gone through: all small ones, and those at, below and above each power of 2 up to 1024.
func sizes() []int {
	var all []int
	for n := 1; n <= 40; n++ {
		all = append(all, n)
	}
	for k := 64; k <= 1024; k *= 2 {
		all = append(all, k-1, k, k+1)
	}
	return all
}

// places are those in a list of n that are gone through: all, if it is short, else its ends and what is at, below and above each power of 2.
func places(n int) []int {
	var all []int
	for i := range n {
		near := i < 2 || power(i-1) || power(i) || power(i+1)
		if n <= 130 || near || i >= n-3 {
			all = append(all, i)
		}
	}
	return all
}

// shown is a list of sums as texts.
func shown(l sums) []string {
	var all []string
	for _, h := range l {
		all = append(all, hex.EncodeToString(h[:]))
	}
	return all
}

// same fails the test unless both lists have the same sums.
func same(t *testing.T, what string, got, want sums) {
	t.Helper()
	if !slices.Equal(got, want) {
		t.Errorf("%s: got %v, want %v", what, shown(got), shown(want))
	}
}

func proof(t *testing.T, l sums, i int) sums {
	t.Helper()
	p, err := merkle.Proof(l, i)
	if err != api.OK {
		t.Fatalf("Proof of leaf %d of %d: error %d", i, len(l), err)
	}
	return p
}

func growth(t *testing.T, l sums, m int) sums {
	t.Helper()
	p, err := merkle.Growth(l, m)
	if err != api.OK {
		t.Fatalf("Growth of %d of %d leaves: error %d", m, len(l), err)
	}
	return p
}

// name is a call's arguments, for what a test tells.
func name(call string, a, b int) string {
	return call + " " + strconv.Itoa(a) + " of " + strconv.Itoa(b)
}

// P5.1

func TestLeafKnown(t *testing.T) {
	for s, want := range map[string]string{
		"":         "6e340b9cffb37a989ca544e6bb780a2c78901d3fb33738768511a30617afa01d",
		"\x00":     "96a296d224f285c67bee93c30f8a309157f0daa35dc5b87e410b78630a09cfc7",
		"\x10":     "0298d122906dcfc10892cb53a73992fc5b9f493ea4c9badb27b791b4127a7fe7",
		" !":       "07506a85fd9dd2f120eb694f86011e5bb4662e5c415a62917033d4a9624487e7",
		"@ABC":     "4271a26be0d8a84f0bd54c8c302e7cb3a3b5d1fa6780a40bcce2873477dab658",
		"PQRSTUVW": "b08693ec2e721597130641e8211e7eedccb4c26413963eee6c1e2ed16ffb1a5f",
	} {
		if got := merkle.Leaf([]byte(s)); hex.EncodeToString(got[:]) != want {
			t.Errorf("Leaf(%q): got %x, want %s", s, got, want)
		}
	}
}

func TestLeafOfEachLength(t *testing.T) {
	for n := range 300 {
		b := drawn(1, n)
		if got, want := merkle.Leaf(b), leafOf(b); got != want {
			t.Errorf("%d bytes: got %x, want %x", n, got, want)
		}
	}
	b := drawn(1, 1000000)
	if got, want := merkle.Leaf(b), leafOf(b); got != want {
		t.Errorf("%d bytes: got %x, want %x", len(b), got, want)
	}
}

func TestNode(t *testing.T) {
	l := append(drawnSums(2, 20), [32]byte{}, [32]byte(bytes.Repeat([]byte{255}, 32)))
	for _, a := range l {
		for _, b := range l {
			if got, want := merkle.Node(a, b), nodeOf(a, b); got != want {
				t.Errorf("Node(%x, %x): got %x, want %x", a, b, got, want)
			}
		}
	}
	if merkle.Node(l[0], l[1]) == merkle.Node(l[1], l[0]) {
		t.Error("the order of both doesn't count")
	}
}

// What a Node is the sum of may be a record's bytes, too: that is no Leaf of the same sum.
func TestLeafIsNoNode(t *testing.T) {
	l := leaves(2)
	both := slices.Concat(l[0][:], l[1][:])
	node := merkle.Node(l[0], l[1])
	if merkle.Leaf(both) == node || merkle.Leaf(append([]byte{1}, both...)) == node || merkle.Leaf(nil) == sha256.Sum256(nil) {
		t.Error("a leaf may pass for a node, or for no leaves")
	}
}

// P5.2

func TestRootOfNone(t *testing.T) {
	const noBytes = "e3b0c44298fc1c149afbf4c8996fb92427ae41e4649b934ca495991b7852b855"
	for _, l := range []sums{nil, {}, leaves(3)[:0], leaves(3)[3:]} {
		if got := merkle.Root(l); hex.EncodeToString(got[:]) != noBytes {
			t.Errorf("got %x, want %s", got, noBytes)
		}
	}
}

func TestRootOfOne(t *testing.T) {
	for _, h := range append(drawnSums(3, 10), [32]byte{}) {
		if got := merkle.Root(sums{h}); got != h {
			t.Errorf("of %x: got %x", h, got)
		}
	}
}

func TestRootKnown(t *testing.T) {
	l := usual(t)
	for i, want := range []string{
		"6e340b9cffb37a989ca544e6bb780a2c78901d3fb33738768511a30617afa01d",
		"fac54203e7cc696cf0dfcb42c92a1d9dbaf70ad9e621f4bd8d98662f00e3c125",
		"aeb6bcfe274b70a14fb067a5e5578264db0fa9b51af5e0ba159158f329e06e77",
		"d37ee418976dd95753c1c73862b9398fa2a2cf9b4ff0fdfe8b30cd95209614b7",
		"4e3bbb1f7b478dcfe71fb631631519a3bca12c9aefca1612bfce4c13a86264d4",
		"76e67dadbcdf1e10e1b74ddc608abd2f98dfb16fbce75277b5232a127f2087ef",
		"ddb89be403809e325750d3d263cd78929c2942b7942a34b77e122c9594a74c8c",
		"5dc9da79a70659a9ad559cb701ded9a2ab9d823aad2f4960cfe370eff4604328",
	} {
		if got := merkle.Root(l[:i+1]); hex.EncodeToString(got[:]) != want {
			t.Errorf("of %d: got %x, want %s", i+1, got, want)
		}
	}
}

// The example: of two leaves Node of both. And the shapes beyond it, said by hand.
func TestRootShapes(t *testing.T) {
	l, node := leaves(7), merkle.Node
	two := node(l[0], l[1])
	four := node(two, node(l[2], l[3]))
	for n, want := range map[int][32]byte{
		2: two,
		3: node(two, l[2]),
		4: four,
		5: node(four, l[4]),
		6: node(four, node(l[4], l[5])),
		7: node(four, node(node(l[4], l[5]), l[6])),
	} {
		if got := merkle.Root(l[:n]); got != want {
			t.Errorf("of %d: got %x, want %x", n, got, want)
		}
	}
}

func TestRootOfEachSize(t *testing.T) {
	l := leaves(1025)
	for _, n := range sizes() {
		if got, want := merkle.Root(l[:n]), rootOf(l[:n]); got != want {
			t.Errorf("of %d: got %x, want %x", n, got, want)
		}
	}
}

func TestRootOfLikeLeaves(t *testing.T) {
	for n := 1; n <= 70; n++ {
		l := slices.Repeat(leaves(1), n)
		if got, want := merkle.Root(l), rootOf(l); got != want {
			t.Errorf("of %d: got %x, want %x", n, got, want)
		}
	}
}

func TestRootOfMany(t *testing.T) {
	l := drawnSums(4, 100003)
	if got, want := merkle.Root(l), rootOf(l); got != want {
		t.Errorf("got %x, want %x", got, want)
	}
}

// Each leaf counts, and where it stands, and how many there are.
func TestRootsDiffer(t *testing.T) {
	seen := map[[32]byte]string{}
	note := func(l sums, what string) {
		t.Helper()
		root := merkle.Root(l)
		if old, ok := seen[root]; ok {
			t.Errorf("%s and %s have one root", old, what)
		}
		seen[root] = what
	}
	for n := range 40 {
		l := leaves(n)
		note(l, strconv.Itoa(n))
		for i := range l {
			other := slices.Clone(l)
			other[i][31] ^= 1
			note(other, name("changed", i, n))
			if i > 0 {
				other = slices.Clone(l)
				other[i-1], other[i] = other[i], other[i-1]
				note(other, name("swapped", i, n))
			}
		}
	}
}

// P5.3

// The example: Proof of leaf 0 of three is leaf 1, leaf 2.
func TestProofOfThree(t *testing.T) {
	l := leaves(3)
	same(t, "leaf 0", proof(t, l, 0), sums{l[1], l[2]})
	same(t, "leaf 1", proof(t, l, 1), sums{l[0], l[2]})
	same(t, "leaf 2", proof(t, l, 2), sums{merkle.Node(l[0], l[1])})
}

func TestProofOfOne(t *testing.T) {
	if p, err := merkle.Proof(leaves(1), 0); len(p) != 0 || err != api.OK {
		t.Errorf("got %v, error %d", shown(p), err)
	}
}

func TestProofKnown(t *testing.T) {
	const (
		four  = "d37ee418976dd95753c1c73862b9398fa2a2cf9b4ff0fdfe8b30cd95209614b7"
		third = "5f083f0a1a33ca076a95279832580db3e0ef4584bdff1f54c8a360f50de3031e"
	)
	l := usual(t)
	for _, x := range []struct {
		n, i int
		want []string
	}{
		{8, 0, []string{"96a296d224f285c67bee93c30f8a309157f0daa35dc5b87e410b78630a09cfc7", third, "6b47aaf29ee3c2af9af889bc1fb9254dabd31177f16232dd6aab035ca39bf6e4"}},
		{8, 5, []string{"bc1a0643b12e4d2d7c77918f44e0f4f79a838b6cf9ec5b5c283e1f4d88599e6b", "ca854ea128ed050b41b35ffc1b87b8eb2bde461e9e3b5596ece6b9d5975a0ae0", four}},
		{3, 2, []string{"fac54203e7cc696cf0dfcb42c92a1d9dbaf70ad9e621f4bd8d98662f00e3c125"}},
		{5, 1, []string{"6e340b9cffb37a989ca544e6bb780a2c78901d3fb33738768511a30617afa01d", third, "bc1a0643b12e4d2d7c77918f44e0f4f79a838b6cf9ec5b5c283e1f4d88599e6b"}},
		{5, 4, []string{four}},
	} {
		if got := shown(proof(t, l[:x.n], x.i)); !slices.Equal(got, x.want) {
			t.Errorf("leaf %d of %d: got %v, want %v", x.i, x.n, got, x.want)
		}
	}
}

func TestProofOfEachLeaf(t *testing.T) {
	l := leaves(1025)
	for _, n := range sizes() {
		for _, i := range places(n) {
			same(t, name("leaf", i, n), proof(t, l[:n], i), proofOf(l[:n], i))
		}
	}
}

func TestProofOfNoLeaf(t *testing.T) {
	l := leaves(130)
	for n := range l {
		for _, i := range []int{math.MinInt, math.MinInt32, -n, -2, -1, n, n + 1, 2 * n, 128, math.MaxInt32, math.MaxInt - 1, math.MaxInt} {
			if i >= 0 && i < n {
				continue
			}
			// Behind the length stand more leaves, which are none of this tree.
			if p, err := merkle.Proof(l[:n], i); err != api.ErrRange || p != nil {
				t.Errorf("leaf %d of %d: got %v, error %d", i, n, shown(p), err)
			}
		}
	}
	for _, none := range []sums{nil, {}} {
		if p, err := merkle.Proof(none, 0); err != api.ErrRange || p != nil {
			t.Errorf("leaf 0 of none: got %v, error %d", shown(p), err)
		}
	}
}

// P5.5

func TestGrowthByHand(t *testing.T) {
	l, node := leaves(7), merkle.Node
	first, second, third := node(l[0], l[1]), node(l[2], l[3]), node(l[4], l[5])
	four := node(first, second)
	for _, x := range []struct {
		m, n int
		want sums
	}{
		{1, 1, nil},
		{1, 2, sums{l[1]}},
		{2, 2, nil},
		{1, 3, sums{l[1], l[2]}},
		{2, 3, sums{l[2]}},
		{3, 3, nil},
		{2, 4, sums{second}},
		{3, 4, sums{l[2], l[3], first}},
		{3, 7, sums{l[2], l[3], first, node(third, l[6])}},
		{4, 7, sums{node(third, l[6])}},
		{5, 7, sums{l[4], l[5], l[6], four}},
		{6, 7, sums{third, l[6], four}},
		{7, 7, nil},
	} {
		same(t, name("Growth", x.m, x.n), growth(t, l[:x.n], x.m), x.want)
	}
}

func TestGrowthKnown(t *testing.T) {
	const third = "5f083f0a1a33ca076a95279832580db3e0ef4584bdff1f54c8a360f50de3031e"
	l := usual(t)
	for _, x := range []struct {
		m, n int
		want []string
	}{
		{1, 1, nil},
		{1, 8, []string{"96a296d224f285c67bee93c30f8a309157f0daa35dc5b87e410b78630a09cfc7", third, "6b47aaf29ee3c2af9af889bc1fb9254dabd31177f16232dd6aab035ca39bf6e4"}},
		{6, 8, []string{"0ebc5d3437fbe2db158b9f126a1d118e308181031d0a949f8dededebc558ef6a", "ca854ea128ed050b41b35ffc1b87b8eb2bde461e9e3b5596ece6b9d5975a0ae0", "d37ee418976dd95753c1c73862b9398fa2a2cf9b4ff0fdfe8b30cd95209614b7"}},
		{2, 5, []string{third, "bc1a0643b12e4d2d7c77918f44e0f4f79a838b6cf9ec5b5c283e1f4d88599e6b"}},
	} {
		if got := shown(growth(t, l[:x.n], x.m)); !slices.Equal(got, x.want) {
			t.Errorf("%d of %d: got %v, want %v", x.m, x.n, got, x.want)
		}
	}
}

func TestGrowthOfEachBeginning(t *testing.T) {
	l := leaves(1025)
	for _, n := range sizes() {
		for _, i := range places(n) {
			same(t, name("Growth", i+1, n), growth(t, l[:n], i+1), growthOf(l[:n], i+1))
		}
	}
}

func TestGrowthOfAll(t *testing.T) {
	l := leaves(1025)
	for _, n := range sizes() {
		same(t, name("Growth", n, n), growth(t, l[:n], n), nil)
	}
}

func TestGrowthOfNoBeginning(t *testing.T) {
	l := leaves(130)
	for n := range l {
		for _, m := range []int{math.MinInt, math.MinInt32, -n - 1, -1, 0, n + 1, n + 2, 2*n + 1, math.MaxInt32, math.MaxInt - 1, math.MaxInt} {
			if p, err := merkle.Growth(l[:n], m); err != api.ErrRange || p != nil {
				t.Errorf("%d of %d: got %v, error %d", m, n, shown(p), err)
			}
		}
	}
	for _, none := range []sums{nil, {}} {
		if p, err := merkle.Growth(none, 0); err != api.ErrRange || p != nil {
			t.Errorf("0 of none: got %v, error %d", shown(p), err)
		}
	}
}

// The rules of all layers

// hidden is that many leaves with others behind their length, and all of them.
func hidden(n int) (sums, sums) {
	all := leaves(n + 70)
	return all[:n], all
}

// asked does each call of the package with that list, as what it is fit for.
func asked(t *testing.T, l sums) {
	t.Helper()
	root := merkle.Root(l)
	merkle.Verify(root, len(l), 0, foreign(), l)
	merkle.Grown(root, 1, root, len(l), l)
	for i := range l {
		p, g := proof(t, l, i), growth(t, l, i+1)
		merkle.Verify(root, len(l), i, l[i], p)
		merkle.Grown(merkle.Root(l[:i+1]), i+1, root, len(l), g)
		merkle.Node(l[i], root)
	}
}

func TestNothingGivenIsChanged(t *testing.T) {
	for n := range 70 {
		l, all := hidden(n)
		asked(t, l)
		if !slices.Equal(all, leaves(n+70)) {
			t.Errorf("%d leaves: they were changed, or those behind them", n)
		}
	}
	b := drawn(6, 200)
	merkle.Leaf(b[:100])
	if !bytes.Equal(b, drawn(6, 200)) {
		t.Error("a leaf's bytes were changed, or those behind them")
	}
}

func TestNoProofIsChanged(t *testing.T) {
	l := leaves(13)
	for n := 1; n <= len(l); n++ {
		for i := range n {
			for _, p := range []sums{proof(t, l[:n], i), growth(t, l[:n], i+1)} {
				all := append(slices.Clone(p), foreign(), foreign())
				given := slices.Clone(all)
				merkle.Verify(merkle.Root(l[:n]), n, i, l[i], all[:len(p)])
				merkle.Grown(merkle.Root(l[:i+1]), i+1, merkle.Root(l[:n]), n, all[:len(p)])
				same(t, name("the proof of", i, n), all, given)
			}
		}
	}
}

func TestWhatLiesBehindIsNotRead(t *testing.T) {
	for n := 1; n < 70; n++ {
		l, all := hidden(n)
		root := merkle.Root(l)
		clear(all[n:])
		if merkle.Root(l) != root || root != rootOf(leaves(n)) {
			t.Errorf("Root of %d: what lies behind is read", n)
		}
		for i := range n {
			same(t, name("leaf", i, n), proof(t, l, i), proofOf(leaves(n), i))
			same(t, name("Growth", i+1, n), growth(t, l, i+1), growthOf(leaves(n), i+1))
		}
	}
	b := drawn(7, 200)
	leaf := merkle.Leaf(b[:100])
	clear(b[100:])
	if merkle.Leaf(b[:100]) != leaf || leaf != leafOf(b[:100]) {
		t.Error("Leaf: what lies behind is read")
	}
	whole := proofOf(leaves(9), 3)
	if merkle.Verify(rootOf(leaves(9)), 9, 3, leaves(9)[3], whole[:3]) {
		t.Error("Verify: what lies behind is read")
	}
	whole = growthOf(leaves(9), 3)
	if merkle.Grown(rootOf(leaves(3)), 3, rootOf(leaves(9)), 9, whole[:len(whole)-1]) {
		t.Error("Grown: what lies behind is read")
	}
}

// What was answered stays, whatever becomes of what was given and of other answers.
func TestAnswersShareNothing(t *testing.T) {
	for n := 1; n <= 20; n++ {
		for i := range n {
			l := leaves(n)
			p, g := proof(t, l, i), growth(t, l, i+1)
			others := []sums{proof(t, l, i), growth(t, l, i+1)}
			clear(l)
			for _, o := range others {
				clear(o)
				clear(o[:cap(o)])
			}
			same(t, name("leaf", i, n), p, proofOf(leaves(n), i))
			same(t, name("Growth", i+1, n), g, growthOf(leaves(n), i+1))
		}
	}
}

// Nor does the list share anything with an answer that is written to, up to its end and behind it.
func TestAnswersMayBeWrittenTo(t *testing.T) {
	for n := 1; n <= 20; n++ {
		l, all := hidden(n)
		for i := range n {
			for _, p := range []sums{proof(t, l, i), growth(t, l, i+1)} {
				clear(p[:cap(p)])
				_ = append(p, foreign())
			}
		}
		if !slices.Equal(all, leaves(n+70)) {
			t.Errorf("%d leaves: an answer shares memory with them", n)
		}
	}
}

func TestAnswersHangOnArgumentsAlone(t *testing.T) {
	l := leaves(37)
	root, p, g := merkle.Root(l), proof(t, l, 21), growth(t, l, 21)
	for n := range l {
		asked(t, l[:n])
		if merkle.Root(l) != root {
			t.Fatalf("behind calls with %d leaves it is another root", n)
		}
		same(t, "the proof again", proof(t, l, 21), p)
		same(t, "the growth again", growth(t, l, 21), g)
	}
	if merkle.Leaf(nil) != merkle.Leaf([]byte{}) || merkle.Root(nil) != merkle.Root(sums{}) {
		t.Error("nil and empty are not the same")
	}
}
