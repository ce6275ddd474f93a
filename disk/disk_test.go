package disk_test

import (
	"math"
	"slices"
	"strings"
	"testing"

	"lingua/api"
	"lingua/disk"
)

const most = 1 << 24 // bytes of a file

var noFiles = []int{-1, 16, 17, math.MinInt, math.MaxInt}

// read returns the whole of a file.
func read(t *testing.T, d *disk.Disk, f int) string {
	t.Helper()
	s, err := d.Read(f, 0, most)
	if err != api.OK || len(s) != d.Size(f) {
		t.Fatalf("Read of the file %d: %d bytes of %d, error %d", f, len(s), d.Size(f), err)
	}
	return s
}

// expectFile checks the whole of a file.
func expectFile(t *testing.T, what string, d *disk.Disk, f int, want string) {
	t.Helper()
	if got := read(t, d, f); got != want {
		t.Errorf("%s: the file %d is %.200q, not %.200q", what, f, got, want)
	}
}

// expectErr checks the result of a call.
func expectErr(t *testing.T, what string, got, want api.Errno) {
	t.Helper()
	if got != want {
		t.Errorf("%s: error %d, not %d", what, got, want)
	}
}

// write writes, where this must succeed.
func write(t *testing.T, d *disk.Disk, f, at int, s string) {
	t.Helper()
	expectErr(t, "Write", d.Write(f, at, s), api.OK)
}

// sync syncs, where this must succeed.
func sync(t *testing.T, d *disk.Disk, f int) {
	t.Helper()
	expectErr(t, "Sync", d.Sync(f), api.OK)
}

// restart crashes and starts the machine.
func restart(d *disk.Disk, keep ...int) {
	d.Crash(keep)
	d.Start()
}

// after returns what a file would be after a crash, of a copy.
func after(t *testing.T, d *disk.Disk, f int, keep ...int) string {
	t.Helper()
	c := d.Copy()
	restart(c, keep...)
	return read(t, c, f)
}

// zeros returns bytes 0.
func zeros(n int) string { return strings.Repeat("\x00", n) }

// indexInList returns the index of a pending sector in the list of so many: the sector of the file f with the byte at, which is not 0. It is found by crashes of copies that keep one sector each; -1: none keeps it.
func indexInList(t *testing.T, d *disk.Disk, f, at, size int) int {
	t.Helper()
	for i := range size {
		keep := make([]int, size)
		keep[i] = 1
		if s := after(t, d, f, keep...); len(s) > at && s[at] != 0 {
			return i
		}
	}
	return -1
}

// TestExamples is about the chapter's examples.
func TestExamples(t *testing.T) {
	for _, c := range []struct {
		keep []int
		want string
	}{{[]int{1}, "aXY"}, {[]int{0}, "abc"}, {nil, "abc"}} {
		d := disk.New()
		write(t, d, 0, 0, "abc")
		sync(t, d, 0)
		write(t, d, 0, 1, "XY")
		restart(d, c.keep...)
		expectFile(t, "the first two examples", d, 0, c.want)
	}
	d := disk.New()
	write(t, d, 0, 62, "abcd")
	restart(d, 0, 1)
	expectFile(t, "the third example", d, 0, zeros(64)+"cd")
	d = disk.New()
	write(t, d, 0, 0, strings.Repeat("x", 200))
	restart(d, 1, 0)
	expectFile(t, "the fourth example", d, 0, strings.Repeat("x", 64)+zeros(64)+strings.Repeat("x", 64))
}

// TestNew is about P2.1: New, Size and Down.
func TestNew(t *testing.T) {
	d := disk.New()
	if d.Down() {
		t.Error("a new machine is down")
	}
	for f := range 16 {
		expectFile(t, "New", d, f, "")
		write(t, d, f, 0, strings.Repeat("a", f))
	}
	for _, f := range noFiles {
		if d.Size(f) != 0 {
			t.Errorf("Size of the file %d: %d", f, d.Size(f))
		}
	}
	for f := range 16 {
		expectFile(t, "each file has its own bytes", d, f, strings.Repeat("a", f))
	}
	sync(t, d, 7)
	d.Crash(nil)
	if !d.Down() {
		t.Error("up after a crash")
	}
	for f := range 16 {
		want := 0
		if f == 7 {
			want = 7
		}
		if d.Size(f) != want {
			t.Errorf("Size of the file %d of a machine that is down: %d", f, d.Size(f))
		}
	}
	for _, f := range noFiles {
		if d.Size(f) != 0 {
			t.Errorf("Size of the file %d of a machine that is down: %d", f, d.Size(f))
		}
	}
	d.Start()
	if d.Down() {
		t.Error("down after a start")
	}
	if other := disk.New(); other.Size(7) != 0 {
		t.Error("two disks share a file")
	}
}

// TestNewIsDurablyEmpty is about P2.1: a new disk has nothing pending, no durable bytes, no lost syncs and no schedule.
func TestNewIsDurablyEmpty(t *testing.T) {
	d := disk.New()
	restart(d, 1)
	for f := range 16 {
		expectFile(t, "a crash of a new disk", d, f, "")
		write(t, d, f, 0, "a")
		sync(t, d, f)
		expectErr(t, "Truncate", d.Truncate(f, 1), api.OK)
	}
}

// TestCopy is about P2.1: a copy and its original go their own ways, in both directions.
func TestCopy(t *testing.T) {
	for _, swap := range []bool{false, true} {
		d := disk.New()
		write(t, d, 0, 0, "durable")
		sync(t, d, 0)
		write(t, d, 0, 0, "now")
		write(t, d, 1, 100, "pending")
		c := d.Copy()
		if swap {
			c, d = d, c
		}
		write(t, c, 0, 0, strings.Repeat("x", 300))
		write(t, c, 5, 0, "five")
		sync(t, c, 1)
		expectErr(t, "Truncate", c.Truncate(1, 3), api.OK)
		expectFile(t, "the other one is written", d, 0, "nowable")
		expectFile(t, "the other one is written", d, 5, "")
		expectFile(t, "the other one is truncated", d, 1, zeros(100)+"pending")
		if s := after(t, d, 1, 0); s != "" {
			t.Errorf("the other one was synced, and this one is durable: %q", s)
		}
		if s := after(t, d, 0, 1); s != "nowable" {
			t.Errorf("a pending sector of this one: %q", s)
		}
		restart(c, 0)
		expectFile(t, "the other one has crashed", d, 0, "nowable")
		restart(d, 0)
		expectFile(t, "this one has crashed", d, 0, "durable")
		expectFile(t, "this one has crashed", c, 0, "durable")
	}
}

// TestCopyOfPending is about P2.1: what one of two copies has pending is not pending in the other one.
func TestCopyOfPending(t *testing.T) {
	for already := range 9 { // lists of several lengths, because some have room for more elements and others have not
		d := disk.New()
		for i := range already {
			write(t, d, 1, 64*i, "a")
		}
		c := d.Copy()
		write(t, c, 0, 64, "c")
		write(t, c, 0, 128, "c")
		write(t, d, 0, 128, "d")
		write(t, d, 0, 64, "d")
		for _, x := range []struct {
			d     *disk.Disk
			order []int
		}{{c, []int{64, 128}}, {d, []int{128, 64}}} {
			for i, at := range x.order {
				if got := indexInList(t, x.d, 0, at, already+2); got != already+i {
					t.Errorf("the sector at %d has the index %d, not %d", at, got, already+i)
				}
			}
		}
	}
}

// TestCopyOfFaults is about P2.1: a copy includes what Lose and Arm have set, and whether the machine is down.
func TestCopyOfFaults(t *testing.T) {
	d := disk.New()
	write(t, d, 0, 0, "a")
	d.Lose(1)
	d.Arm(3, []int{1})
	c := d.Copy()
	for _, x := range []*disk.Disk{c, d} {
		expectErr(t, "the lost sync", x.Sync(0), api.ErrLost)
		expectErr(t, "a call before the crash", x.Write(0, 1, "b"), api.OK)
		expectErr(t, "the call at the crash", x.Write(0, 2, "c"), api.ErrDown)
		y := x.Copy()
		if !x.Down() || !y.Down() {
			t.Error("up after the crash")
		}
		x.Start()
		if x.Down() || !y.Down() {
			t.Error("a start of one of two copies")
		}
		expectFile(t, "after the crash", x, 0, "abc")
	}
	e := disk.New()
	e.Lose(2)
	e.Arm(1, nil)
	c = e.Copy()
	c.Lose(0)
	c.Arm(0, nil)
	expectErr(t, "Sync of the copy", c.Sync(0), api.OK)
	expectErr(t, "Sync of the original", e.Sync(0), api.ErrDown)
	e.Start()
	expectErr(t, "Sync of the original", e.Sync(0), api.ErrLost)
}

// TestRead is about P2.2: those of the bytes that exist.
func TestRead(t *testing.T) {
	d := disk.New()
	write(t, d, 3, 0, "abcdef")
	for _, c := range []struct {
		f, at, size int
		want        string
		err         api.Errno
	}{
		{3, 0, 6, "abcdef", api.OK},
		{3, 0, 0, "", api.OK},
		{3, 0, 1, "a", api.OK},
		{3, 2, 3, "cde", api.OK},
		{3, 2, 4, "cdef", api.OK},
		{3, 2, 5, "cdef", api.OK},
		{3, 5, 1, "f", api.OK},
		{3, 6, 0, "", api.OK},
		{3, 6, 1, "", api.OK},
		{3, 7, 1, "", api.OK},
		{3, 0, math.MaxInt, "abcdef", api.OK},
		{3, 1, math.MaxInt, "bcdef", api.OK},
		{3, math.MaxInt, math.MaxInt, "", api.OK},
		{3, math.MaxInt, 0, "", api.OK},
		{4, 0, 6, "", api.OK},
		{15, 1, 6, "", api.OK},
		{3, -1, 6, "", api.ErrArg},
		{3, math.MinInt, 6, "", api.ErrArg},
		{3, 0, -1, "", api.ErrArg},
		{3, 0, math.MinInt, "", api.ErrArg},
		{3, math.MinInt, math.MinInt, "", api.ErrArg},
		{-1, 0, 6, "", api.ErrArg},
		{16, 0, 6, "", api.ErrArg},
		{math.MinInt, 0, 6, "", api.ErrArg},
		{math.MaxInt, 0, 6, "", api.ErrArg},
	} {
		if s, err := d.Read(c.f, c.at, c.size); s != c.want || err != c.err {
			t.Errorf("Read(%d, %d, %d): %q, error %d", c.f, c.at, c.size, s, err)
		}
	}
	s := read(t, d, 3)
	write(t, d, 3, 0, "ABCDEF")
	if s != "abcdef" {
		t.Error("a string that was read has changed")
	}
}

// TestWrite is about P2.2 and the definition of putting: bytes are replaced and appended, with bytes 0 before them.
func TestWrite(t *testing.T) {
	d := disk.New()
	for _, c := range []struct {
		at   int
		s    string
		want string
	}{
		{0, "", ""},
		{5, "", ""},
		{most, "", ""},
		{2, "ab", "\x00\x00ab"},
		{0, "x", "x\x00ab"},
		{3, "cd", "x\x00acd"},
		{1, "y\xff\x00", "xy\xff\x00d"},
		{5, "e", "xy\xff\x00de"},
		{6, "", "xy\xff\x00de"},
		{0, "", "xy\xff\x00de"},
		{100, "", "xy\xff\x00de"},
		{8, "f", "xy\xff\x00de\x00\x00f"},
		{0, "123456789", "123456789"},
		{0, strings.Repeat("z", 130), strings.Repeat("z", 130)},
	} {
		write(t, d, 2, c.at, c.s)
		expectFile(t, "Write", d, 2, c.want)
		expectFile(t, "Write to another file", d, 1, "")
	}
}

// TestWriteArguments is about P2.2: what Write refuses changes nothing.
func TestWriteArguments(t *testing.T) {
	d := disk.New()
	write(t, d, 0, 0, "abc")
	sync(t, d, 0)
	big := strings.Repeat("b", most)
	for _, c := range []struct {
		f, at int
		s     string
		err   api.Errno
	}{
		{0, -1, "x", api.ErrArg},
		{0, -1, "", api.ErrArg},
		{0, math.MinInt, "x", api.ErrArg},
		{0, -1, big + "b", api.ErrArg},
		{-1, 0, "x", api.ErrArg},
		{16, 0, "x", api.ErrArg},
		{16, 0, "", api.ErrArg},
		{16, most + 1, "x", api.ErrArg},
		{math.MinInt, 0, "x", api.ErrArg},
		{math.MaxInt, 0, "x", api.ErrArg},
		{0, most, "x", api.ErrFull},
		{0, most - 1, "xy", api.ErrFull},
		{0, most + 1, "", api.ErrFull},
		{0, math.MaxInt, "", api.ErrFull},
		{0, math.MaxInt, "x", api.ErrFull},
		{0, math.MaxInt - 1, "xy", api.ErrFull},
		{0, 1, big, api.ErrFull},
		{0, 0, big + "b", api.ErrFull},
	} {
		expectErr(t, "Write", d.Write(c.f, c.at, c.s), c.err)
		expectFile(t, "a Write that was refused", d, 0, "abc")
	}
	if s := after(t, d, 0, 1); s != "abc" {
		t.Errorf("a crash after what was refused: %q", s)
	}
	write(t, d, 0, most-1, "x")
	if d.Size(0) != most {
		t.Errorf("a file of %d bytes", d.Size(0))
	}
	write(t, d, 1, 0, big)
	restart(d, 1)
	if s := read(t, d, 1); s != big {
		t.Errorf("%d bytes of the greatest file survive", len(s))
	}
	if s := read(t, d, 0); s != "abc"+zeros(most-4)+"x" {
		t.Errorf("%d bytes of the file with a byte at its end survive", len(s))
	}
}

// TestPendingList is about P2.2: sectors are added at the end of one list of all files, ascending, and once each.
func TestPendingList(t *testing.T) {
	d := disk.New()
	type place struct{ f, at int }
	var order []place
	expectOrder := func(what string) {
		t.Helper()
		for i, p := range order {
			if got := indexInList(t, d, p.f, p.at, len(order)); got != i {
				t.Errorf("%s: the sector of the file %d at %d has the index %d, not %d", what, p.f, p.at, got, i)
			}
		}
	}
	write(t, d, 1, 130, strings.Repeat("a", 62)) // the end of a sector, and no byte of the next one
	order = append(order, place{1, 130})
	expectOrder("one sector")
	write(t, d, 0, 63, "bb")
	order = append(order, place{0, 63}, place{0, 64})
	expectOrder("two sectors, with a byte each")
	write(t, d, 1, 0, strings.Repeat("c", 200))
	order = append(order, place{1, 0}, place{1, 64}, place{1, 199})
	expectOrder("three sectors around one that pends")
	write(t, d, 0, 60, strings.Repeat("d", 10))
	expectOrder("two sectors that pend")
	write(t, d, 15, 64, strings.Repeat("e", 64))
	order = append(order, place{15, 64})
	expectOrder("a whole sector")
	write(t, d, 15, 0, "")
	write(t, d, 15, 500, "")
	expectOrder("no sector")
	sync(t, d, 0)
	order = slices.DeleteFunc(order, func(p place) bool { return p.f == 0 })
	expectOrder("without those of a file that was synced")
	write(t, d, 0, 0, "f")
	order = append(order, place{0, 0})
	expectOrder("one of them again")
	expectErr(t, "Truncate", d.Truncate(1, 200), api.OK)
	order = slices.DeleteFunc(order, func(p place) bool { return p.f == 1 })
	if s := after(t, d, 1); len(s) != 200 {
		t.Errorf("truncated to 200, and %d bytes survive", len(s))
	}
	expectOrder("without those of a file that was truncated")
}

// TestGap is about P2.2: bytes 0 before what is written are pending only as far as they share a sector with it.
func TestGap(t *testing.T) {
	d := disk.New()
	write(t, d, 0, 0, "a")
	write(t, d, 0, 300, "x")
	for _, c := range []struct {
		keep []int
		want string
	}{
		{[]int{1, 0}, "a" + zeros(63)}, // these share a sector with what was written before them
		{[]int{0, 1}, zeros(300) + "x"},
		{[]int{1, 1}, "a" + zeros(299) + "x"},
		{[]int{0, 0, 1}, ""},
	} {
		if s := after(t, d, 0, c.keep...); s != c.want {
			t.Errorf("%v: %q", c.keep, s)
		}
	}
	if i := indexInList(t, d, 0, 300, 2); i != 1 {
		t.Errorf("the second sector that was written has the index %d", i)
	}
	sync(t, d, 0)
	if s := after(t, d, 0); s != "a"+zeros(299)+"x" {
		t.Errorf("a gap that was synced: %q", s)
	}
}

// TestSync is about P2.2: the bytes of the file become durable, and those of no other file.
func TestSync(t *testing.T) {
	d := disk.New()
	write(t, d, 0, 0, "abc")
	write(t, d, 1, 0, "def")
	write(t, d, 1, 200, "ghi")
	sync(t, d, 1)
	sync(t, d, 1)
	sync(t, d, 2)
	for _, f := range noFiles {
		expectErr(t, "Sync of no file", d.Sync(f), api.ErrArg)
	}
	expectFile(t, "Sync", d, 1, "def"+zeros(197)+"ghi")
	if s := after(t, d, 0, 1); s != "abc" {
		t.Errorf("a file that still pends: %q", s)
	}
	restart(d)
	expectFile(t, "not synced", d, 0, "")
	expectFile(t, "synced", d, 1, "def"+zeros(197)+"ghi")
	write(t, d, 1, 1, "E")
	write(t, d, 1, 203, "j")
	restart(d)
	expectFile(t, "synced, and written again", d, 1, "def"+zeros(197)+"ghi")
}

// TestLose is about P2.2 and P2.3: lost syncs change nothing but their number.
func TestLose(t *testing.T) {
	d := disk.New()
	write(t, d, 0, 0, "abc")
	d.Lose(5)
	d.Lose(2)
	for _, f := range noFiles {
		expectErr(t, "Sync of no file", d.Sync(f), api.ErrArg)
	}
	expectErr(t, "the first lost sync", d.Sync(0), api.ErrLost)
	if after(t, d, 0) != "" || after(t, d, 0, 1) != "abc" {
		t.Error("a lost sync has changed what pends")
	}
	write(t, d, 0, 3, "d")
	expectErr(t, "Truncate", d.Truncate(0, 4), api.OK)
	restart(d)
	expectErr(t, "the second lost sync, after a crash", d.Sync(1), api.ErrLost)
	expectErr(t, "Sync", d.Sync(0), api.OK)
	expectFile(t, "truncated, though syncs were lost", d, 0, "abcd")
	for _, n := range []int{0, -1, math.MinInt} {
		d.Lose(3)
		d.Lose(n)
		expectErr(t, "none is lost", d.Sync(0), api.OK)
	}
	d.Crash(nil)
	d.Lose(1)
	expectErr(t, "Sync of a machine that is down", d.Sync(0), api.ErrDown)
	d.Start()
	expectErr(t, "Sync", d.Sync(0), api.ErrLost)
	d.Lose(math.MaxInt)
	for range 100 {
		expectErr(t, "Sync", d.Sync(0), api.ErrLost)
	}
}

// TestTruncate is about P2.2: the beginning of the file becomes the file and its durable part at once.
func TestTruncate(t *testing.T) {
	text := strings.Repeat("0123456789", 20)
	for _, size := range []int{0, 1, 63, 64, 65, 100, 128, 150, 199, 200} {
		d := disk.New()
		write(t, d, 0, 0, text[:100])
		sync(t, d, 0)
		write(t, d, 0, 50, text[50:150])
		write(t, d, 0, 150, text[150:])
		write(t, d, 1, 0, "other")
		d.Lose(1)
		expectErr(t, "Truncate", d.Truncate(0, size), api.OK)
		expectFile(t, "Truncate", d, 0, text[:size])
		for _, keep := range []int{0, 1} {
			if s := after(t, d, 0, keep); s != text[:size] {
				t.Errorf("truncated to %d, and %d bytes survive", size, len(s))
			}
			if s := after(t, d, 1, keep); s != "other"[:5*keep] {
				t.Errorf("a file beside the one that was truncated: %q", s)
			}
		}
		expectErr(t, "Sync", d.Sync(0), api.ErrLost)
		write(t, d, 0, size+5, "x")
		expectFile(t, "written after Truncate", d, 0, text[:size]+zeros(5)+"x")
		if s := after(t, d, 0, 0); s != text[:size] {
			t.Errorf("truncated to %d and written, and %d bytes survive", size, len(s))
		}
		if s := after(t, d, 0, 1); s != text[:size]+zeros(5)+"x" {
			t.Errorf("truncated to %d and written: %q survives", size, s)
		}
	}
}

// TestTruncateArguments is about P2.2: what Truncate refuses changes nothing.
func TestTruncateArguments(t *testing.T) {
	d := disk.New()
	write(t, d, 0, 0, "abc")
	for _, c := range [][2]int{{0, -1}, {0, 4}, {0, math.MinInt}, {0, math.MaxInt}, {1, 1}, {-1, 0}, {16, 0}, {math.MinInt, 0}, {math.MaxInt, 0}} {
		expectErr(t, "Truncate", d.Truncate(c[0], c[1]), api.ErrArg)
	}
	expectFile(t, "a Truncate that was refused", d, 0, "abc")
	if after(t, d, 0) != "" || after(t, d, 0, 1) != "abc" {
		t.Error("a Truncate that was refused has changed what pends")
	}
	expectErr(t, "Truncate of an empty file", d.Truncate(1, 0), api.OK)
}

// TestKeep is about P2.3: which pending sectors survive.
func TestKeep(t *testing.T) {
	d := disk.New()
	write(t, d, 0, 0, strings.Repeat("x", 7*64))
	for _, c := range []struct {
		keep []int
		want string
	}{
		{nil, "......."},
		{[]int{}, "......."},
		{[]int{0}, "......."},
		{[]int{2}, "......."},
		{[]int{math.MinInt}, "......."},
		{[]int{1}, "xxxxxxx"},
		{[]int{3}, "xxxxxxx"},
		{[]int{-1}, "xxxxxxx"},
		{[]int{-3}, "xxxxxxx"},
		{[]int{math.MaxInt}, "xxxxxxx"},
		{[]int{0, 1}, ".x.x.x."},
		{[]int{1, 0, 0}, "x..x..x"},
		{[]int{0, 1, 1, 0}, ".xx..xx"},
		{[]int{-2, -5, 4, 7}, ".x.x.x."},
		{[]int{0, 0, 0, 0, 0, 0, 1}, "......x"},
		{[]int{1, 0, 0, 0, 0, 1, 0, 1, 1, 1}, "x....x."},
		{[]int{0, 0, 0, 0, 0, 0, 0, 1}, "......."},
	} {
		var want strings.Builder
		for _, r := range c.want {
			want.WriteString(strings.Repeat(map[rune]string{'x': "x", '.': "\x00"}[r], 64))
		}
		whole := want.String()[:64*(1+strings.LastIndexByte(c.want, 'x'))]
		keep := slices.Clone(c.keep)
		if s := after(t, d, 0, c.keep...); s != whole {
			t.Errorf("%v: %d bytes survive, not %q", c.keep, len(s), c.want)
		}
		if !slices.Equal(keep, c.keep) {
			t.Errorf("%v has become %v", keep, c.keep)
		}
	}
}

// TestCrashKeepsLastBytes is about P2.3: a sector survives as the file has it at the crash, not as it was when it began to pend.
func TestCrashKeepsLastBytes(t *testing.T) {
	d := disk.New()
	write(t, d, 0, 0, "abcdef")
	sync(t, d, 0)
	write(t, d, 0, 0, "1")
	write(t, d, 0, 2, "3")
	write(t, d, 0, 6, "7")
	restart(d, 1)
	expectFile(t, "a sector written three times", d, 0, "1b3def7")
	restart(d)
	expectFile(t, "what survived is durable", d, 0, "1b3def7")
	write(t, d, 0, 0, "zzz")
	restart(d)
	restart(d, 1)
	expectFile(t, "what did not survive is gone", d, 0, "1b3def7")
}

// TestDown is about P2.2 and P2.3: a machine that is down does nothing, whatever the arguments, and another crash does nothing.
func TestDown(t *testing.T) {
	d := disk.New()
	write(t, d, 0, 0, "abc")
	sync(t, d, 0)
	write(t, d, 0, 64, "d")
	d.Lose(1)
	d.Crash(nil)
	d.Crash([]int{1})
	for _, f := range append([]int{0, 1}, noFiles...) {
		for _, n := range []int{0, 1, -1, most + 1, math.MinInt, math.MaxInt} {
			if s, err := d.Read(f, n, n); s != "" || err != api.ErrDown {
				t.Errorf("Read: %q, error %d", s, err)
			}
			expectErr(t, "Write", d.Write(f, n, "x"), api.ErrDown)
			expectErr(t, "Write", d.Write(f, n, ""), api.ErrDown)
			expectErr(t, "Sync", d.Sync(f), api.ErrDown)
			expectErr(t, "Truncate", d.Truncate(f, n), api.ErrDown)
		}
	}
	if !d.Down() {
		t.Error("a call has brought the machine up")
	}
	d.Start()
	expectFile(t, "calls while the machine was down", d, 0, "abc")
	expectErr(t, "Sync", d.Sync(0), api.ErrLost)
	write(t, d, 0, 3, "d")
	d.Start()
	restart(d, 1)
	expectFile(t, "Start of a machine that is up", d, 0, "abcd")
}

// TestArm is about P2.4: at the n-th call the machine goes down, and it is not performed, unless it is a Write.
func TestArm(t *testing.T) {
	begin := func() *disk.Disk {
		d := disk.New()
		write(t, d, 0, 0, "abc")
		sync(t, d, 0)
		write(t, d, 0, 0, "A")
		d.Lose(1)
		return d
	}
	for _, c := range []struct {
		name   string
		call   func(d *disk.Disk) api.Errno
		lost   string // the file, if no sector survives
		kept   string // the file, if all survive
		normal api.Errno
	}{
		{"Write", func(d *disk.Disk) api.Errno { return d.Write(0, 2, "CD") }, "abc", "AbCD", api.OK},
		{"Write of nothing", func(d *disk.Disk) api.Errno { return d.Write(0, 9, "") }, "abc", "Abc", api.OK},
		{"Write of too much", func(d *disk.Disk) api.Errno { return d.Write(0, most, "x") }, "abc", "Abc", api.ErrFull},
		{"Write to no file", func(d *disk.Disk) api.Errno { return d.Write(16, 0, "x") }, "abc", "Abc", api.ErrArg},
		{"Write before the file", func(d *disk.Disk) api.Errno { return d.Write(0, -1, "x") }, "abc", "Abc", api.ErrArg},
		{"Sync", func(d *disk.Disk) api.Errno { return d.Sync(0) }, "abc", "Abc", api.ErrLost},
		{"Sync of no file", func(d *disk.Disk) api.Errno { return d.Sync(-1) }, "abc", "Abc", api.ErrArg},
		{"Truncate", func(d *disk.Disk) api.Errno { return d.Truncate(0, 1) }, "abc", "Abc", api.OK},
		{"Truncate beyond the end", func(d *disk.Disk) api.Errno { return d.Truncate(0, 9) }, "abc", "Abc", api.ErrArg},
	} {
		for n := 1; n <= 3; n++ {
			for _, keep := range []int{0, 1} {
				d := begin()
				d.Arm(n, []int{keep})
				for i := 1; i < n; i++ {
					// Calls that are refused, and do nothing, count as well.
					expectErr(t, "before the crash", d.Truncate(0, -1), api.ErrArg)
				}
				d.Read(0, 0, 1)
				d.Size(0)
				d.Copy()
				if d.Down() {
					t.Errorf("%s: down before the call with the number %d", c.name, n)
				}
				expectErr(t, c.name+" at the crash", c.call(d), api.ErrDown)
				if !d.Down() {
					t.Errorf("%s: up after the call with the number %d", c.name, n)
				}
				d.Start()
				want := c.lost
				if keep == 1 {
					want = c.kept
				}
				expectFile(t, c.name, d, 0, want)
				expectErr(t, c.name+", then Sync", d.Sync(0), api.ErrLost)
				expectErr(t, c.name+", then Sync", d.Sync(0), api.OK)
			}
		}
		for _, n := range []int{0, -1, math.MinInt} {
			d := begin()
			d.Arm(1, []int{1})
			d.Arm(n, []int{1})
			expectErr(t, c.name+" without a crash", c.call(d), c.normal)
		}
		d := begin()
		d.Arm(math.MaxInt, nil)
		expectErr(t, c.name+" long before the crash", c.call(d), c.normal)
	}
}

// TestArmCountsWhileUp is about P2.4: calls of a machine that is down do not count, and refused ones and lost syncs do.
func TestArmCountsWhileUp(t *testing.T) {
	d := disk.New()
	d.Crash(nil)
	d.Arm(4, []int{1})
	d.Crash([]int{1}) // no crash, because the machine is down: the schedule stays
	for range 10 {
		expectErr(t, "Write", d.Write(0, 0, "a"), api.ErrDown)
		expectErr(t, "Sync", d.Sync(0), api.ErrDown)
		expectErr(t, "Truncate", d.Truncate(0, 0), api.ErrDown)
	}
	d.Start()
	d.Lose(1)
	expectErr(t, "a lost sync", d.Sync(0), api.ErrLost)
	expectErr(t, "Write", d.Write(0, 0, "b"), api.OK)
	expectErr(t, "Write", d.Write(0, -1, "b"), api.ErrArg)
	expectErr(t, "Write at the crash", d.Write(0, 1, "c"), api.ErrDown)
	d.Start()
	expectFile(t, "after the crash", d, 0, "bc")
	for range 10 {
		write(t, d, 0, 0, "d")
	}
}

// TestArmIsReplaced is about P2.4: there is one schedule at most, and a crash cancels it.
func TestArmIsReplaced(t *testing.T) {
	d := disk.New()
	d.Arm(1, []int{1})
	d.Arm(2, nil)
	write(t, d, 0, 0, "a")
	expectErr(t, "the second one", d.Write(0, 0, "b"), api.ErrDown)
	d.Start()
	expectFile(t, "a crash that keeps nothing", d, 0, "")
	d.Arm(3, []int{0})
	write(t, d, 0, 0, "c")
	d.Arm(3, []int{1})
	write(t, d, 0, 1, "d")
	write(t, d, 0, 2, "e")
	expectErr(t, "the third one after the second schedule", d.Write(0, 3, "f"), api.ErrDown)
	d.Start()
	expectFile(t, "a crash that keeps all", d, 0, "cdef")
	d.Arm(1, []int{1})
	restart(d)
	for range 5 {
		write(t, d, 0, 0, "g")
	}
	expectFile(t, "a crash has cancelled the schedule", d, 0, "gdef")
}

// TestArmKeepsItsOwnList is about R3: Arm neither changes its argument nor sees later changes of it.
func TestArmKeepsItsOwnList(t *testing.T) {
	d := disk.New()
	keep := []int{1, 0}
	d.Arm(1, keep)
	c := d.Copy()
	keep[0], keep[1] = 0, 1
	for _, x := range []*disk.Disk{d, c} {
		expectErr(t, "at the crash", x.Write(0, 0, strings.Repeat("x", 128)), api.ErrDown)
		x.Start()
		expectFile(t, "after the crash", x, 0, strings.Repeat("x", 64))
	}
	if !slices.Equal(keep, []int{0, 1}) {
		t.Errorf("the argument has become %v", keep)
	}
}
