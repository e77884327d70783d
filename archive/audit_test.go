package archive_test

import (
	"slices"
	"strconv"
	"strings"
	"testing"

	"scriptorium/api"
	"scriptorium/archive"
	"scriptorium/disk"
)

// audits fails the test unless Audit answers that number, and leaves the disk as it is.
func audits(t *testing.T, what string, d *disk.Disk, want int) {
	t.Helper()
	was := contents(d)
	d.Arm(1)
	if n, err := archive.Audit(d); n != want || err != api.OK {
		t.Errorf("%s: Audit: got %d, %d, want %d, of %s", what, n, err, want, short(was))
	}
	d.Arm(0)
	if got := contents(d); !slices.Equal(got, was) {
		t.Errorf("%s: Audit has changed %s to %s", what, short(was), short(got))
	}
}

// breaks fails the test unless those segments break a rule, first in that one.
func breaks(t *testing.T, what string, want int, segs ...[]string) {
	t.Helper()
	d := lay(t, segs...)
	audits(t, what, d, want)
	refuses(t, what, d, config(100), api.ErrArchive)
	if got := contents(d); !slices.Equal(got, filesOf(segs)) {
		t.Errorf("%s: Open has changed it to %s", what, short(got))
	}
}

// keeps fails the test unless those segments keep to the rules.
func keeps(t *testing.T, what string, segs ...[]string) {
	t.Helper()
	d := lay(t, segs...)
	audits(t, what, d, 0)
	open(t, d, config(100))
}

// msg is the record of a message of that number.
func msg(id int64) string {
	return told(api.Message{ID: id, Class: "all", Env: plain(5), Body: []byte("body")})
}

func gone(id int64) string { return left(id, 7, leafOf("x")) }

// P17.1 and P17.9: each rule, kept and broken

func TestRecordsThatAreNone(t *testing.T) {
	h := held("h", "")
	for _, rec := range []string{"", "x", "\x00", "\x01", "\x06" + put("h"), h[:1], h[1:], h + "x", "\x04" + put("h"), held("H", ""), held("h", "a"), lifted(""), msg(0), msg(api.MaxID + 1), msg(1) + "x", msg(1)[:9], gone(0), gone(1)[:48], gone(1) + "x", left(1, -1, [32]byte{}), "\x01" + put("1", "A", "a@b", "5", "1", "c@d", "x"), "\x01" + put("01", "a", "a@b", "5", "1", "c@d", "x")} {
		breaks(t, "alone", 1, []string{rec})
		breaks(t, "behind another", 1, []string{h, rec})
		breaks(t, "ahead of another", 1, []string{rec, msg(2)})
		breaks(t, "in a second segment", 2, chained([]string{h}, []string{rec})...)
		breaks(t, "in the first of two", 1, chained([]string{rec}, []string{h})...)
		breaks(t, "in place of the seal", 2, []string{h}, []string{rec})
	}
}

func TestNumbersRise(t *testing.T) {
	for _, l := range [][]string{{msg(2), msg(1)}, {msg(2), msg(2)}, {msg(2), gone(2)}, {gone(2), msg(2)}, {gone(2), gone(2)}, {gone(api.MaxID), msg(1)}, {msg(9), gone(8)}, {gone(9), msg(8)}, {gone(9), gone(3)}} {
		breaks(t, "one behind the other", 1, l)
		breaks(t, "with one between", 1, []string{l[0], held("h", ""), l[1]})
		breaks(t, "with a segment between", 2, chained(l[:1], l[1:])...)
		breaks(t, "with more segments between", 3, chained(l[:1], nil, l[1:])...)
		breaks(t, "ahead of others", 2, chained(l[:1], l[1:], []string{msg(10)})...)
	}
	for _, l := range [][]string{{msg(1), msg(2)}, {msg(1), gone(2)}, {gone(1), msg(2)}, {gone(1), gone(2)}, {msg(7), msg(api.MaxID)}} {
		keeps(t, "one behind the other", l)
		keeps(t, "with one between", []string{l[0], held("h", ""), l[1]})
		keeps(t, "with a segment between", chained(l[:1], l[1:])...)
	}
}

func TestHoldsKeepToTheirRules(t *testing.T) {
	h, g, x := held("h", ""), held("g", "a@b"), lifted("h")
	for _, l := range [][]string{{h, h}, {h, held("h", "a@b")}, {h, g, h}, {x}, {g, x}, {h, x, x}, {x, h}, {h, x, h, h}} {
		breaks(t, "in one segment", 1, l)
		n, want := len(l)-1, 2
		if n > 0 && l[0] == x {
			want = 1
		}
		breaks(t, "in two", want, chained(append([]string{msg(1)}, l[:n]...), l[n:])...)
	}
	for _, l := range [][]string{{h, g}, {h, x}, {h, x, h}, {h, g, x, held("h", "c@d")}} {
		keeps(t, "in one segment", l)
		keeps(t, "in two", chained(l[:1], l[1:])...)
	}
	var all []string
	for i := range 100 {
		all = append(all, held("x"+strconv.Itoa(i), ""))
	}
	keeps(t, "100 holds", all)
	breaks(t, "101 holds", 1, append(slices.Clone(all), h))
	keeps(t, "100 holds behind one that is lifted", append(slices.Clone(all), lifted("x7"), h))
}

// A segment but the first one begins with the seal of the one ahead, and has no other; the first one has none.
func TestSealsWhereTheyStand(t *testing.T) {
	a, b, c := []string{msg(1), held("h", "")}, []string{msg(2)}, []string{msg(3), lifted("h")}
	good := chained(a, b, c)
	keeps(t, "all sealed", good...)
	first, second := good[1][0], good[2][0]
	breaks(t, "no seal in the second", 2, a, b)
	breaks(t, "no seal in the second of three", 2, a, b, good[2])
	breaks(t, "no seal in the third", 3, good[0], good[1], c)
	breaks(t, "a seal behind another record", 2, a, []string{msg(2), first})
	breaks(t, "a seal in the first", 1, []string{first, msg(1)})
	breaks(t, "a seal alone in the first", 1, []string{first})
	breaks(t, "a seal of nothing in the first", 1, []string{sealed(1, nil, "")})
	breaks(t, "a seal in the last place of the first", 1, append(slices.Clone(a), first))
	breaks(t, "a second seal", 2, a, []string{first, first})
	breaks(t, "a second seal at the end", 2, a, []string{first, msg(2), first})
	breaks(t, "the next seal in the segment itself", 2, a, []string{first, msg(2), second})
	breaks(t, "another second seal", 3, good[0], good[1], append(slices.Clone(good[2]), sealed(3, good[2], second)))
}

func TestSealsThatDoNotHold(t *testing.T) {
	a, b, c := []string{msg(1), held("h", "")}, []string{msg(2)}, []string{msg(3), lifted("h")}
	good := chained(a, b, c)
	keeps(t, "whole", good...)
	root, other, sum := rootOf(leaves(a)), leafOf("other"), leafOf("ahead")
	for what, seal := range map[string]string{
		"another number":       sealing(2, 2, root, [32]byte{}),
		"a great number":       sealing(999_999, 2, root, [32]byte{}),
		"another count":        sealing(1, 3, root, [32]byte{}),
		"no count":             sealing(1, 0, root, [32]byte{}),
		"other leaves":         sealing(1, 2, other, [32]byte{}),
		"the leaves turned":    sealing(1, 2, rootOf(leaves([]string{a[1], a[0]})), [32]byte{}),
		"one leaf less":        sealed(1, a[:1], ""),
		"no leaf":              sealed(1, nil, ""),
		"a sum ahead of none":  sealing(1, 2, root, sum),
		"the seal that's next": good[2][0],
	} {
		breaks(t, what, 2, a, append([]string{seal}, b...))
		breaks(t, what+", with one behind it", 2, a, append([]string{seal}, b...), good[2])
		breaks(t, what+", sealed again", 2, a, append([]string{seal}, b...), append([]string{sealed(2, append([]string{seal}, b...), seal)}, c...))
	}
	root = rootOf(leaves(good[1]))
	for what, seal := range map[string]string{
		"another number":     sealing(1, 2, root, [32]byte([]byte(good[2][0][41:]))),
		"other leaves":       sealing(2, 2, other, [32]byte([]byte(good[2][0][41:]))),
		"no sum ahead":       sealed(2, good[1], ""),
		"another sum ahead":  sealing(2, 2, root, sum),
		"the sum of itself":  sealed(2, good[1], good[2][0]),
		"the seal ahead":     good[1][0],
		"without that ahead": sealed(2, b, good[1][0]),
	} {
		breaks(t, "third: "+what, 3, good[0], good[1], append([]string{seal}, c...))
	}
}

func TestEmptySegments(t *testing.T) {
	a, b := []string{msg(1)}, []string{msg(2)}
	good := chained(a, b, nil)
	keeps(t, "an empty one", nil)
	keeps(t, "an empty last one", a, nil)
	keeps(t, "an empty last one behind two", good[0], good[1], nil)
	breaks(t, "an empty first one", 1, nil, b)
	breaks(t, "an empty first one that is sealed", 1, nil, []string{sealed(1, nil, ""), msg(1)})
	breaks(t, "two empty ones", 1, nil, nil)
	breaks(t, "two empty ones behind another", 2, a, nil, nil)
	breaks(t, "an empty one between", 2, a, nil, append([]string{sealed(2, nil, "")}, b...))
	breaks(t, "an empty one between, sealed with the sum ahead", 2, a, nil, append([]string{sealed(2, nil, good[1][0])}, b...))
}

// P17.9

func TestAuditOfDisksThatAreDown(t *testing.T) {
	d := lay(t, []string{msg(1)})
	fail(t, d)
	for what, d := range map[string]*disk.Disk{"nil": nil, "nobody's": new(disk.Disk), "down": d} {
		if n, err := archive.Audit(d); n != 0 || err != api.ErrDead {
			t.Errorf("%s: got %d, %d", what, n, err)
		}
	}
	d.Start(nil)
	audits(t, "with power again", d, 0)
}

// Files that are no segment of the archive are nothing to it.
func TestAuditOfDisksWithoutSegments(t *testing.T) {
	others := []string{"arch", "arch.", "arch.000000", "arch.1", "arch.00001", "arch.0000001", "arch.-00001", "arch.00000a", "arch.000001.new", "arch.1000000", "xarch.000001", "arch.arch.000001", "000001", "000002", "queue.000001"}
	d := disk.New(room)
	if n, err := archive.Audit(d); n != 0 || err != api.ErrArchive {
		t.Errorf("of nothing: got %d, %d", n, err)
	}
	for _, name := range others {
		set(t, d, name, "no frame")
		was := contents(d)
		if n, err := archive.Audit(d); n != 0 || err != api.ErrArchive {
			t.Errorf("with %s: got %d, %d", name, n, err)
		}
		if got := contents(d); !slices.Equal(got, was) {
			t.Errorf("with %s: got %s", name, short(got))
		}
	}
	set(t, d, "arch.000001", framed(msg(1)))
	audits(t, "with others", d, 0)
	set(t, d, "arch.000002", "")
	audits(t, "with others", d, 0)
	set(t, d, "arch.000002", "no frame")
	audits(t, "with others", d, 2)
}

func TestAuditWhole(t *testing.T) {
	for _, segs := range wholes() {
		audits(t, "whole", lay(t, segs...), 0)
	}
	d, a, m := many(t, 30)
	audits(t, "much", d, 0)
	purges(t, "some", d, a, m, 10, []int64{1, 2, 17, 30}, 1, 2, 17, 30)
	audits(t, "much, some of it purged", d, 0)
}

// three are three segments that keep to the rules.
func three() [][]string {
	return chained([]string{msg(1), held("h", "a@b"), msg(2)}, []string{gone(3), msg(4)}, []string{lifted("h"), msg(5)})
}

// A byte that is changed in any place is found in its segment.
func TestAuditOfBytesThatAreChanged(t *testing.T) {
	segs := three()
	d := lay(t, segs...)
	for i, recs := range segs {
		whole := framed(recs...)
		for at := range len(whole) {
			for _, c := range []byte{1, 0x80, 0xff} {
				b := []byte(whole)
				b[at] ^= c
				set(t, d, name(i+1), string(b))
				audits(t, "changed", d, i+1)
			}
		}
		set(t, d, name(i+1), whole)
	}
	audits(t, "set right", d, 0)
}

// Also one whose check sum is set right is found, as soon as its segment is sealed: there, or in the one that has the seal.
func TestAuditOfRecordsThatAreChanged(t *testing.T) {
	segs := three()
	d := lay(t, segs...)
	for i, recs := range segs[:2] {
		for n, rec := range recs {
			for at := range len(rec) {
				// What is purged is told by its leaf alone.
				if rec[0] == 2 && at >= 1 && at < 17 {
					continue
				}
				for _, c := range []byte{1, 3, 0x80, 0xff} {
					b := []byte(rec)
					b[at] ^= c
					changed := slices.Clone(recs)
					changed[n] = string(b)
					set(t, d, name(i+1), framed(changed...))
					if seg, err := archive.Audit(d); seg != i+1 && seg != i+2 || err != api.OK {
						t.Errorf("segment %d, record %d, byte %d: got %d, %d", i+1, n, at, seg, err)
					}
					refuses(t, "changed", d, config(100), api.ErrArchive)
				}
			}
		}
		set(t, d, name(i+1), framed(recs...))
	}
	body := strings.Replace(segs[0][0], "body", "Body", 1)
	breaks(t, "another body", 2, []string{body, segs[0][1], segs[0][2]}, segs[1], segs[2])
	breaks(t, "what was purged, back", 3, segs[0], []string{segs[1][0], msg(3), segs[1][2]}, segs[2])
	keeps(t, "purged later", segs[0], []string{segs[1][0], left(3, 99, leafOf("x")), segs[1][2]}, segs[2])
	keeps(t, "purged", []string{left(1, 99, leafOf(segs[0][0])), segs[0][1], segs[0][2]}, segs[1], segs[2])
	breaks(t, "purged to another leaf", 2, []string{left(1, 99, leafOf(body)), segs[0][1], segs[0][2]}, segs[1], segs[2])
	breaks(t, "purged to a number that's there", 2, []string{segs[0][0], segs[0][1], left(3, 99, leafOf(msg(2)))}, segs[1], segs[2])
	keeps(t, "another body in the open segment", segs[0], segs[1], []string{segs[2][0], segs[2][1], strings.Replace(segs[2][2], "body", "Body", 1)})
}

// Frames that are cut off, laid on, turned round: of a sealed segment.
func TestAuditOfFramesThatAreCutOff(t *testing.T) {
	segs := three()
	d := lay(t, segs...)
	for i, recs := range segs {
		whole := framed(recs...)
		ends := map[int]bool{}
		for n := range len(recs) + 1 {
			ends[len(framed(recs[:n]...))] = true
		}
		for n := range len(whole) {
			set(t, d, name(i+1), whole[:n])
			want := i + 1
			switch {
			case ends[n] && i == 2:
				want = 0
			case ends[n] && n > 0:
				want = i + 2
			}
			audits(t, "cut off", d, want)
		}
		for _, more := range []string{"x", whole[:len(whole)-1], "\x00\x00\x00\x00\x00\x00\x00\x00"} {
			set(t, d, name(i+1), whole+more)
			audits(t, "more behind", d, i+1)
		}
		set(t, d, name(i+1), whole)
	}
	breaks(t, "turned round", 2, []string{segs[0][1], segs[0][0], segs[0][2]}, segs[1], segs[2])
	breaks(t, "one more", 2, append(slices.Clone(segs[0]), held("g", "")), segs[1], segs[2])
	breaks(t, "one more in the second", 3, segs[0], append(slices.Clone(segs[1]), held("g", "")), segs[2])
	keeps(t, "one more in the last", segs[0], segs[1], append(slices.Clone(segs[2]), held("g", "")))
}

func TestAuditOfSegmentsThatLack(t *testing.T) {
	segs := append(three(), []string{})
	segs[3] = []string{due(1, segs[:3])}
	for i, want := range []int{2, 3, 4, 0} {
		d := lay(t, segs...)
		d.Delete(name(i + 1))
		audits(t, "lacking", d, want)
		if want == 0 {
			open(t, d, config(100))
		} else {
			refuses(t, "lacking", d, config(100), api.ErrArchive)
		}
	}
	d := lay(t, segs...)
	d.Rename(name(2), name(5))
	audits(t, "one at the end", d, 3)
	d = lay(t, segs...)
	d.Rename(name(4), name(5))
	audits(t, "the last one, later", d, 0)
}

// Where rules are broken in more than one segment, the first of them is told.
func TestAuditTellsTheFirst(t *testing.T) {
	segs := three()
	bad := []string{segs[1][0], msg(9), msg(4)}
	breaks(t, "the second", 2, segs[0], bad, []string{"none"})
	breaks(t, "the first", 1, []string{"none"}, bad, []string{"none"})
	d := lay(t, segs[0], bad, segs[2])
	for _, n := range []int{3, 2, 1} {
		set(t, d, name(n), "torn")
		audits(t, "torn", d, min(n, 2))
	}
}

// What a power failure leaves torn is broken till the archive is opened again; a file that was to take a segment's place is nothing to it.
func TestAuditBehindAFailure(t *testing.T) {
	d, a, m := many(t, 5)
	d.Arm(2)
	if _, err := a.Ingest(plain(0), []byte("torn")); err != api.ErrDead {
		t.Fatalf("Ingest: got %d", err)
	}
	d.Start([]int{9})
	last := len(m.segs)
	audits(t, "torn", d, last)
	a = open(t, d, config(200))
	holds(t, "opened", d, a, m)
	d.Arm(3)
	if l, err := a.Purge(10, []int64{1}); len(l) != 0 || err != api.ErrDead {
		t.Fatalf("Purge: got %v, %d", l, err)
	}
	d.Start([]int{20})
	if !slices.Contains(d.Names(), "arch.000001.new") {
		t.Fatalf("got %v", d.Names())
	}
	audits(t, "with a file that was to take its place", d, 0)
	holds(t, "opened again", d, open(t, d, config(200)), m)
}
