package disk_test

import (
	"math"
	"slices"
	"strings"
	"testing"

	"scriptorium/api"
	"scriptorium/disk"
)

// want fails the test unless the errors are those, in order.
func want(t *testing.T, what string, got []api.Errno, errs ...api.Errno) {
	t.Helper()
	if !slices.Equal(got, errs) {
		t.Errorf("%s: got %v, want %v", what, got, errs)
	}
}

// holds fails the test unless the disk's files are just those: a name, its bytes, and so on.
func holds(t *testing.T, d *disk.Disk, pairs ...string) {
	t.Helper()
	var names []string
	used := 0
	for i := 0; i < len(pairs); i += 2 {
		names = append(names, pairs[i])
		used += len(pairs[i+1])
		if b, err := d.Read(pairs[i]); string(b) != pairs[i+1] || err != api.OK {
			t.Errorf("Read(%q): got %q, %d, want %q", pairs[i], b, err, pairs[i+1])
		}
	}
	if got := d.Names(); !slices.Equal(got, names) {
		t.Errorf("Names: got %q, want %q", got, names)
	}
	if d.Used() != used {
		t.Errorf("Used: got %d, want %d", d.Used(), used)
	}
}

// fill is a disk of room 100 with the files that are told: a name, what is safe of it, its tail, and so on.
func fill(t *testing.T, triples ...string) *disk.Disk {
	t.Helper()
	d := disk.New(100)
	for i := 0; i < len(triples); i += 3 {
		name := triples[i]
		errs := []api.Errno{d.Append(name, []byte(triples[i+1])), d.Sync(name), d.Append(name, []byte(triples[i+2]))}
		want(t, "fill "+name, errs, api.OK, api.OK, api.OK)
	}
	return d
}

// fail lets the power fail in a change that does nothing else.
func fail(t *testing.T, d *disk.Disk) {
	t.Helper()
	d.Arm(1)
	if err := d.Create("x"); err != api.ErrDead || !d.Down() {
		t.Fatalf("Create in which the power fails: got %d, down %v", err, d.Down())
	}
}

// all is what each call that has an error answers, given that name and those bytes.
func all(d *disk.Disk, name string, b []byte) []api.Errno {
	errs := []api.Errno{d.Append(name, b), d.Create(name), d.Sync(name), d.Rename(name, "z"), d.Rename("z", name), d.Delete(name)}
	_, err := d.Read(name)
	return append(errs, err)
}

// each is that error, once for each call of all.
func each(err api.Errno) []api.Errno { return slices.Repeat([]api.Errno{err}, 7) }

func TestErrors(t *testing.T) {
	want(t, "numbers", []api.Errno{api.OK, api.ErrNone, api.ErrDead, api.ErrFull, api.ErrName}, 0, 3, 10, 11, 12)
}

// P1.1

func TestNewIsEmpty(t *testing.T) {
	for _, x := range []struct{ room, free int }{{math.MinInt, 0}, {-1, 0}, {0, 0}, {1, 1}, {20, 20}, {math.MaxInt, math.MaxInt}} {
		d := disk.New(x.room)
		holds(t, d)
		if d.Free() != x.free || d.Down() {
			t.Errorf("New(%d): free %d, down %v", x.room, d.Free(), d.Down())
		}
	}
}

func TestNewWithoutRoom(t *testing.T) {
	for _, room := range []int{math.MinInt, -1, 0} {
		d := disk.New(room)
		want(t, "no room", []api.Errno{d.Append("a", []byte("1")), d.Append("a", nil)}, api.ErrFull, api.OK)
		holds(t, d, "a", "")
	}
}

func TestNewWithAllRoom(t *testing.T) {
	d := disk.New(math.MaxInt)
	want(t, "all room", []api.Errno{d.Append("a", []byte("123")), d.Append("b", []byte("45"))}, api.OK, api.OK)
	if d.Free() != math.MaxInt-5 {
		t.Error(d.Free())
	}
}

func TestDisksAreApart(t *testing.T) {
	d, e := disk.New(5), disk.New(5)
	want(t, "one", []api.Errno{d.Append("a", []byte("1"))}, api.OK)
	holds(t, d, "a", "1")
	holds(t, e)
}

func dead(t *testing.T, what string, d *disk.Disk) {
	t.Helper()
	for _, name := range []string{"a", "", "A", strings.Repeat("a", 65)} {
		want(t, what, all(d, name, []byte("12")), each(api.ErrDead)...)
	}
	if d.Names() != nil || d.Used() != 0 || d.Free() != 0 || !d.Down() {
		t.Errorf("%s: %q, used %d, free %d, down %v", what, d.Names(), d.Used(), d.Free(), d.Down())
	}
	if b, _ := d.Read("a"); b != nil {
		t.Errorf("%s: Read: %q", what, b)
	}
}

func TestUnmade(t *testing.T) {
	for _, d := range []*disk.Disk{nil, new(disk.Disk)} {
		dead(t, "at first", d)
		d.Limit(10)
		dead(t, "behind Limit", d)
		d.Arm(1)
		dead(t, "behind Arm", d)
		d.Start([]int{1, 2})
		dead(t, "behind Start", d)
	}
}

// P1.2

func TestNameBytes(t *testing.T) {
	const good = "abcdefghijklmnopqrstuvwxyz0123456789-."
	for c := range 256 {
		s := string([]byte{byte(c)})
		ok := strings.Contains(good, s)
		for _, name := range []string{s, "a" + s, s + "a", "a" + s + "a"} {
			if disk.Name(name) != ok {
				t.Errorf("Name(%q): got %v", name, !ok)
			}
		}
	}
}

func TestNameLengths(t *testing.T) {
	for _, x := range []struct {
		n  int
		ok bool
	}{{0, false}, {1, true}, {2, true}, {63, true}, {64, true}, {65, false}, {1000, false}} {
		if disk.Name(strings.Repeat("a", x.n)) != x.ok {
			t.Errorf("%d bytes: got %v", x.n, !x.ok)
		}
	}
	// 64 is bytes, not letters.
	if disk.Name(strings.Repeat("é", 32)) {
		t.Error("letters past a to z")
	}
}

func TestNamesThatMayNotBe(t *testing.T) {
	d := fill(t, "z", "12", "34")
	for _, name := range []string{"", "A", "a b", "a/b", "_", "é", "\x00", "a\n", strings.Repeat("a", 65)} {
		want(t, name, all(d, name, make([]byte, 200)), each(api.ErrName)...)
		want(t, "ahead of ErrNone", []api.Errno{d.Rename("q", name), d.Rename(name, "q")}, api.ErrName, api.ErrName)
	}
	holds(t, d, "z", "1234")
	fail(t, d)
	want(t, "behind ErrDead", all(d, "A", nil), each(api.ErrDead)...)
}

func TestNamesAtTheEdge(t *testing.T) {
	d := disk.New(10)
	long := strings.Repeat("-", 64)
	want(t, "64 bytes", []api.Errno{d.Append(long, []byte("1")), d.Append(".", []byte("2"))}, api.OK, api.OK)
	holds(t, d, long, "1", ".", "2")
}

// P1.3

func TestAppend(t *testing.T) {
	d := disk.New(10)
	want(t, "new, behind, empty", []api.Errno{d.Append("b", []byte("123")), d.Append("b", []byte("45")), d.Append("a", nil), d.Append("b", nil)}, api.OK, api.OK, api.OK, api.OK)
	holds(t, d, "a", "", "b", "12345")
	if d.Free() != 5 {
		t.Error(d.Free())
	}
}

func TestAppendAnyBytes(t *testing.T) {
	b := make([]byte, 256)
	for i := range b {
		b[i] = byte(i)
	}
	d := disk.New(256)
	want(t, "all bytes", []api.Errno{d.Append("a", b)}, api.OK)
	holds(t, d, "a", string(b))
}

func TestAppendFull(t *testing.T) {
	d := disk.New(5)
	errs := []api.Errno{d.Append("a", []byte("123456")), d.Append("a", []byte("123")), d.Append("b", []byte("123")), d.Append("a", []byte("123")), d.Append("b", []byte("12")), d.Append("b", []byte("1")), d.Append("c", nil)}
	want(t, "room 5", errs, api.ErrFull, api.OK, api.ErrFull, api.ErrFull, api.OK, api.ErrFull, api.OK)
	holds(t, d, "a", "123", "b", "12", "c", "")
}

func TestAppendStandsInTheTail(t *testing.T) {
	d := fill(t, "a", "12", "34")
	want(t, "behind the tail", []api.Errno{d.Append("a", []byte("56"))}, api.OK)
	holds(t, d, "a", "123456")
	fail(t, d)
	d.Start([]int{3})
	holds(t, d, "a", "12345")
}

// P1.4

func TestCreate(t *testing.T) {
	d := fill(t, "a", "12", "34")
	want(t, "new, old", []api.Errno{d.Create("b"), d.Create("a"), d.Create("a")}, api.OK, api.OK, api.OK)
	holds(t, d, "a", "", "b", "")
	want(t, "append", []api.Errno{d.Append("a", []byte("5678"))}, api.OK)
	fail(t, d)
	// Nothing of what was safe ahead of Create is: all that came behind it is tail.
	d.Start([]int{1})
	holds(t, d, "a", "5", "b", "")
}

func TestCreateWithoutRoom(t *testing.T) {
	d := fill(t, "a", "12", "34")
	d.Limit(0)
	want(t, "no room", []api.Errno{d.Create("b"), d.Create("a")}, api.OK, api.OK)
	holds(t, d, "a", "", "b", "")
}

// P1.5

func TestSync(t *testing.T) {
	d := disk.New(10)
	errs := []api.Errno{d.Sync("a"), d.Append("a", []byte("123")), d.Append("b", []byte("45")), d.Sync("a"), d.Sync("a"), d.Create("c"), d.Sync("c")}
	want(t, "sync", errs, api.ErrNone, api.OK, api.OK, api.OK, api.OK, api.OK, api.OK)
	holds(t, d, "a", "123", "b", "45", "c", "")
	fail(t, d)
	d.Start(nil)
	holds(t, d, "a", "123", "b", "", "c", "")
}

// P1.6

func TestRename(t *testing.T) {
	d := fill(t, "a", "12", "34", "b", "567", "8", "c", "9", "")
	want(t, "over another, to a new one", []api.Errno{d.Rename("a", "b"), d.Rename("c", "0")}, api.OK, api.OK)
	holds(t, d, "0", "9", "b", "1234")
	if d.Free() != 95 {
		t.Error(d.Free())
	}
	fail(t, d)
	d.Start([]int{1})
	holds(t, d, "0", "9", "b", "123")
}

func TestRenameToItself(t *testing.T) {
	d := fill(t, "a", "12", "34")
	want(t, "itself", []api.Errno{d.Rename("a", "a")}, api.OK)
	holds(t, d, "a", "1234")
	fail(t, d)
	d.Start(nil)
	holds(t, d, "a", "12")
}

func TestRenamedFilesAreApart(t *testing.T) {
	d := fill(t, "a", "12", "34")
	want(t, "anew", []api.Errno{d.Rename("a", "b"), d.Append("a", []byte("5")), d.Append("b", []byte("6"))}, api.OK, api.OK, api.OK)
	holds(t, d, "a", "5", "b", "12346")
}

func TestRenameNone(t *testing.T) {
	d := fill(t, "a", "12", "34")
	want(t, "none", []api.Errno{d.Rename("b", "a"), d.Rename("b", "c"), d.Rename("b", "b")}, api.ErrNone, api.ErrNone, api.ErrNone)
	holds(t, d, "a", "1234")
}

func TestDelete(t *testing.T) {
	d := fill(t, "a", "12", "34", "b", "5", "6")
	want(t, "delete", []api.Errno{d.Delete("c"), d.Delete("a"), d.Delete("a"), d.Sync("a")}, api.ErrNone, api.OK, api.ErrNone, api.ErrNone)
	holds(t, d, "b", "56")
	// What was safe of a file that is gone is no part of a new one.
	want(t, "anew", []api.Errno{d.Append("a", []byte("789"))}, api.OK)
	fail(t, d)
	d.Start(nil)
	holds(t, d, "a", "", "b", "5")
}

// P1.7

func TestRead(t *testing.T) {
	d := fill(t, "a", "12", "34", "b", "", "")
	holds(t, d, "a", "1234", "b", "")
	if b, err := d.Read("c"); b != nil || err != api.ErrNone {
		t.Error(b, err)
	}
}

func TestNamesRise(t *testing.T) {
	d := disk.New(0)
	for _, name := range []string{"b", "a", "ab", "0", "-", ".", "a.", "a-", "z", "aa"} {
		want(t, name, []api.Errno{d.Create(name)}, api.OK)
	}
	holds(t, d, "-", "", ".", "", "0", "", "a", "", "a-", "", "a.", "", "aa", "", "ab", "", "b", "", "z", "")
}

func TestUsedAndFree(t *testing.T) {
	d := fill(t, "a", "12", "34", "b", "5", "")
	if d.Used() != 5 || d.Free() != 95 {
		t.Error(d.Used(), d.Free())
	}
	want(t, "less", []api.Errno{d.Delete("b"), d.Create("a")}, api.OK, api.OK)
	if d.Used() != 0 || d.Free() != 100 {
		t.Error(d.Used(), d.Free())
	}
}

// P1.8

func TestLimit(t *testing.T) {
	d := fill(t, "a", "12", "34")
	for _, x := range []struct{ room, free int }{{4, 0}, {5, 1}, {3, 0}, {-1, 0}, {math.MinInt, 0}, {math.MaxInt, math.MaxInt - 4}, {10, 6}} {
		if d.Limit(x.room); d.Free() != x.free || d.Used() != 4 {
			t.Errorf("Limit(%d): free %d, used %d", x.room, d.Free(), d.Used())
		}
	}
	want(t, "room 10", []api.Errno{d.Append("a", make([]byte, 7)), d.Append("a", []byte("567890"))}, api.ErrFull, api.OK)
	holds(t, d, "a", "1234567890")
}

func TestLimitBelowWhatIsUsed(t *testing.T) {
	d := fill(t, "a", "12", "34")
	d.Limit(3)
	want(t, "room 3", []api.Errno{d.Append("a", nil), d.Append("b", nil), d.Sync("a"), d.Create("b"), d.Rename("a", "c")}, api.ErrFull, api.ErrFull, api.OK, api.OK, api.OK)
	holds(t, d, "b", "", "c", "1234")
	d.Limit(4)
	want(t, "room 4", []api.Errno{d.Append("a", nil), d.Append("b", []byte("1"))}, api.OK, api.ErrFull)
}

func TestLimitBelowNought(t *testing.T) {
	d := disk.New(10)
	d.Limit(-5)
	want(t, "below 0", []api.Errno{d.Append("a", nil), d.Append("a", []byte("1"))}, api.OK, api.ErrFull)
}

func TestLimitWithoutPower(t *testing.T) {
	d := fill(t, "a", "12", "34")
	fail(t, d)
	d.Limit(7)
	if d.Free() != 0 || !d.Down() {
		t.Error(d.Free(), d.Down())
	}
	d.Start(nil)
	if d.Free() != 5 {
		t.Error(d.Free())
	}
}
