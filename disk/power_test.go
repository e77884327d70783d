package disk_test

import (
	"math"
	"slices"
	"testing"

	"scriptorium/api"
	"scriptorium/disk"
)

// P1.9

func TestArmCountsChanges(t *testing.T) {
	changes := []func(d *disk.Disk) api.Errno{
		func(d *disk.Disk) api.Errno { return d.Append("b", []byte("1")) },
		func(d *disk.Disk) api.Errno { return d.Create("c") },
		func(d *disk.Disk) api.Errno { return d.Sync("b") },
		func(d *disk.Disk) api.Errno { return d.Rename("b", "d") },
		func(d *disk.Disk) api.Errno { return d.Delete("d") },
		func(d *disk.Disk) api.Errno { return d.Append("c", nil) },
	}
	for n := range len(changes) + 2 {
		d := fill(t, "a", "12", "34")
		d.Arm(n)
		for i, change := range changes {
			err := api.OK
			if n > 0 && i+1 >= n {
				err = api.ErrDead
			}
			if got := change(d); got != err || d.Down() != (err == api.ErrDead) {
				t.Errorf("Arm(%d), change %d: got %d, down %v", n, i+1, got, d.Down())
			}
		}
	}
}

func TestArmBelowOne(t *testing.T) {
	for _, n := range []int{0, -1, math.MinInt} {
		d := disk.New(10)
		d.Arm(2)
		d.Arm(n)
		for range 5 {
			want(t, "not armed", []api.Errno{d.Create("a")}, api.OK)
		}
	}
}

func TestArmAgain(t *testing.T) {
	d := disk.New(10)
	d.Arm(1)
	d.Arm(3)
	want(t, "the last one counts", []api.Errno{d.Create("a"), d.Create("a"), d.Create("a")}, api.OK, api.OK, api.ErrDead)
	d = disk.New(10)
	d.Arm(math.MaxInt)
	want(t, "far away", []api.Errno{d.Create("a")}, api.OK)
}

func TestArmDoesNotCountErrors(t *testing.T) {
	d := fill(t, "a", "12", "34")
	d.Arm(1)
	errs := []api.Errno{d.Append("a", make([]byte, 97)), d.Append("A", nil), d.Create(""), d.Sync("q"), d.Sync("Q"), d.Rename("q", "a"), d.Rename("a", "Q"), d.Delete("q"), d.Delete("Q")}
	want(t, "errors", errs, api.ErrFull, api.ErrName, api.ErrName, api.ErrNone, api.ErrName, api.ErrNone, api.ErrName, api.ErrNone, api.ErrName)
	holds(t, d, "a", "1234")
	if d.Down() {
		t.Fatal("down behind errors")
	}
	want(t, "the change", []api.Errno{d.Sync("a")}, api.ErrDead)
}

func TestArmDoesNotCountReading(t *testing.T) {
	d := fill(t, "a", "12", "34")
	d.Arm(1)
	holds(t, d, "a", "1234")
	d.Limit(50)
	d.Start([]int{0})
	if d.Free() != 46 || d.Down() {
		t.Error(d.Free(), d.Down())
	}
	want(t, "the change", []api.Errno{d.Sync("a")}, api.ErrDead)
}

func TestFailingChange(t *testing.T) {
	for _, x := range []struct {
		what   string
		change func(d *disk.Disk) api.Errno
		files  []string // behind a start that keeps all
	}{
		{"append", func(d *disk.Disk) api.Errno { return d.Append("a", []byte("78")) }, []string{"a", "123478", "b", "56"}},
		{"append nothing", func(d *disk.Disk) api.Errno { return d.Append("a", nil) }, []string{"a", "1234", "b", "56"}},
		{"append, new", func(d *disk.Disk) api.Errno { return d.Append("c", []byte("78")) }, []string{"a", "1234", "b", "56", "c", "78"}},
		{"append nothing, new", func(d *disk.Disk) api.Errno { return d.Append("c", nil) }, []string{"a", "1234", "b", "56", "c", ""}},
		{"create", func(d *disk.Disk) api.Errno { return d.Create("a") }, []string{"a", "1234", "b", "56"}},
		{"create, new", func(d *disk.Disk) api.Errno { return d.Create("c") }, []string{"a", "1234", "b", "56"}},
		{"sync", func(d *disk.Disk) api.Errno { return d.Sync("a") }, []string{"a", "1234", "b", "56"}},
		{"rename", func(d *disk.Disk) api.Errno { return d.Rename("a", "b") }, []string{"a", "1234", "b", "56"}},
		{"rename, new", func(d *disk.Disk) api.Errno { return d.Rename("a", "c") }, []string{"a", "1234", "b", "56"}},
		{"delete", func(d *disk.Disk) api.Errno { return d.Delete("a") }, []string{"a", "1234", "b", "56"}},
	} {
		d := fill(t, "a", "12", "34", "b", "5", "6")
		d.Arm(1)
		want(t, x.what, []api.Errno{x.change(d)}, api.ErrDead)
		dead(t, x.what, d)
		d.Start([]int{9, 9, 9})
		holds(t, d, x.files...)
	}
}

func TestFailingAppendStandsInTheTail(t *testing.T) {
	d := fill(t, "a", "12", "34")
	d.Arm(1)
	want(t, "append", []api.Errno{d.Append("a", []byte("567"))}, api.ErrDead)
	d.Start([]int{3})
	holds(t, d, "a", "12345")
}

func TestFailingSyncMakesNothingSafe(t *testing.T) {
	d := fill(t, "a", "12", "34")
	d.Arm(1)
	want(t, "sync", []api.Errno{d.Sync("a")}, api.ErrDead)
	d.Start(nil)
	holds(t, d, "a", "12")
}

func TestArmWithoutPower(t *testing.T) {
	d := fill(t, "a", "12", "34")
	fail(t, d)
	d.Arm(1)
	d.Start(nil)
	want(t, "a start fails in no change", []api.Errno{d.Create("b"), d.Create("c")}, api.OK, api.OK)
}

// P1.10

func TestStartKeeps(t *testing.T) {
	for _, x := range []struct {
		keep  []int
		files []string
	}{
		{nil, []string{"a", "12", "b", "5", "c", "", "d", "9"}},
		{[]int{}, []string{"a", "12", "b", "5", "c", "", "d", "9"}},
		{[]int{1}, []string{"a", "123", "b", "5", "c", "", "d", "9"}},
		{[]int{2, 1}, []string{"a", "1234", "b", "5", "c", "6", "d", "9"}},
		{[]int{0, 2}, []string{"a", "12", "b", "5", "c", "67", "d", "9"}},
		{[]int{-1, 3}, []string{"a", "12", "b", "5", "c", "678", "d", "9"}},
		{[]int{math.MinInt, -7, 5}, []string{"a", "12", "b", "5", "c", "", "d", "9"}},
		{[]int{3, 4, 1, 1}, []string{"a", "1234", "b", "5", "c", "678", "d", "9"}},
		{[]int{math.MaxInt, math.MaxInt}, []string{"a", "1234", "b", "5", "c", "678", "d", "9"}},
	} {
		// The files b and d have no tail: nothing of keep is theirs.
		d := fill(t, "d", "9", "", "c", "", "678", "b", "5", "", "a", "12", "34")
		fail(t, d)
		d.Start(x.keep)
		holds(t, d, x.files...)
		if d.Down() || d.Free() != 100-d.Used() {
			t.Error(x.keep, d.Down(), d.Free())
		}
		// What is left is safe.
		fail(t, d)
		d.Start(nil)
		holds(t, d, x.files...)
	}
}

func TestStartWithPower(t *testing.T) {
	d := fill(t, "a", "12", "34")
	d.Arm(2)
	d.Start([]int{1})
	holds(t, d, "a", "1234")
	want(t, "still armed", []api.Errno{d.Create("b"), d.Create("c")}, api.OK, api.ErrDead)
	d.Start([]int{1})
	holds(t, d, "a", "123", "b", "")
}

func TestStartFailsInNoChange(t *testing.T) {
	d := disk.New(10)
	fail(t, d)
	d.Start(nil)
	for range 5 {
		want(t, "behind a start", []api.Errno{d.Create("a")}, api.OK)
	}
}

func TestStartKeepsTheRoom(t *testing.T) {
	d := fill(t, "a", "12", "34")
	d.Limit(5)
	fail(t, d)
	d.Start([]int{1})
	want(t, "room 5", []api.Errno{d.Append("a", []byte("456")), d.Append("a", []byte("45"))}, api.ErrFull, api.OK)
	holds(t, d, "a", "12345")
}

func TestExample(t *testing.T) {
	d := disk.New(100)
	want(t, "append, sync, append", []api.Errno{d.Append("a", []byte("12345")), d.Sync("a"), d.Append("a", []byte("678"))}, api.OK, api.OK, api.OK)
	d.Arm(1)
	want(t, "sync", []api.Errno{d.Sync("a")}, api.ErrDead)
	d.Start([]int{2})
	holds(t, d, "a", "1234567")
}

// P2

func TestNothingIsShared(t *testing.T) {
	d := disk.New(100)
	b := []byte("1234")
	want(t, "append", []api.Errno{d.Append("a", b)}, api.OK)
	b[0] = 'x'
	got, _ := d.Read("a")
	got[1] = 'y'
	_ = append(got, 'z')
	names := d.Names()
	names[0] = "q"
	holds(t, d, "a", "1234")
	one, _ := d.Read("a")
	want(t, "append", []api.Errno{d.Append("a", []byte("5"))}, api.OK)
	two, _ := d.Read("a")
	two[0] = 'x'
	if string(one) != "1234" {
		t.Errorf("an answer has changed: %q", one)
	}
}

func TestNothingGivenIsChanged(t *testing.T) {
	d := disk.New(100)
	b := []byte("12345678")
	want(t, "append", []api.Errno{d.Append("a", b[:2]), d.Append("a", []byte("xy")), d.Append("b", b[2:4:4])}, api.OK, api.OK, api.OK)
	holds(t, d, "a", "12xy", "b", "34")
	if string(b) != "12345678" {
		t.Errorf("bytes: %q", b)
	}
	fail(t, d)
	keep := []int{9, -1, 7}
	d.Start(keep[:1])
	holds(t, d, "a", "12xy", "b", "")
	if !slices.Equal(keep, []int{9, -1, 7}) {
		t.Error(keep)
	}
}

func TestWhatIsCutIsNotThere(t *testing.T) {
	d := fill(t, "a", "12", "3456")
	fail(t, d)
	d.Start([]int{1})
	want(t, "append", []api.Errno{d.Append("a", []byte("x"))}, api.OK)
	holds(t, d, "a", "123x")
	b, _ := d.Read("a")
	for _, c := range b[:cap(b)][len(b):] {
		if c != 0 {
			t.Errorf("behind the length: %q", b[:cap(b)])
		}
	}
}
