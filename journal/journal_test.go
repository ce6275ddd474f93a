package journal_test

import (
	"math"
	"math/big"
	"slices"
	"strconv"
	"strings"
	"testing"

	"lingua/api"
	"lingua/disk"
	"lingua/journal"
)

const most = 1 << 24 // bytes of a file

// form is the form of a record, in the words of the chapter and without the packages that it is built of.
func form(record string) string {
	sum := new(big.Int)
	for i := range len(record) {
		sum.Add(sum, new(big.Int).Mul(big.NewInt(int64(record[i])), big.NewInt(int64(i+1))))
	}
	sum.Mod(sum, big.NewInt(2147483647))
	return strconv.Itoa(len(record)) + ":" + record + "," + sum.String() + ";"
}

// forms returns the forms of records, one after the other.
func forms(records ...string) string {
	var b strings.Builder
	for _, s := range records {
		b.WriteString(form(s))
	}
	return b.String()
}

// zeros returns bytes 0, whose sum is 0.
func zeros(n int) string { return strings.Repeat("\x00", n) }

// expectErr checks the result of a call.
func expectErr(t *testing.T, what string, got, want api.Errno) {
	t.Helper()
	if got != want {
		t.Fatalf("%s: error %d, not %d", what, got, want)
	}
}

// diskWith returns a disk with a durable file.
func diskWith(t *testing.T, f int, s string) *disk.Disk {
	t.Helper()
	d := disk.New()
	expectErr(t, "Write", d.Write(f, 0, s), api.OK)
	expectErr(t, "disk.Sync", d.Sync(f), api.OK)
	return d
}

// open opens a journal, where this must succeed.
func open(t *testing.T, d *disk.Disk, f int) *journal.Journal {
	t.Helper()
	j, err := journal.Open(d, f)
	if j == nil || err != api.OK {
		t.Fatalf("Open: %v, error %d", j, err)
	}
	return j
}

// refuse opens a journal, where this must fail.
func refuse(t *testing.T, what string, d *disk.Disk, f int, want api.Errno) {
	t.Helper()
	j, err := journal.Open(d, f)
	if j != nil || err != want {
		t.Fatalf("%s: Open: %v, error %d, not nil, error %d", what, j, err, want)
	}
}

// add appends records, where this must succeed.
func add(t *testing.T, j *journal.Journal, records ...string) {
	t.Helper()
	for _, s := range records {
		expectErr(t, "Append", j.Append(s), api.OK)
	}
}

// restart crashes and starts the machine.
func restart(d *disk.Disk, keep ...int) {
	d.Crash(keep)
	d.Start()
}

// expectFile checks the whole of a file.
func expectFile(t *testing.T, what string, d *disk.Disk, f int, want string) {
	t.Helper()
	got, err := d.Read(f, 0, most)
	if err != api.OK || got != want {
		t.Fatalf("%s: the file %d has %d bytes, %.200q (error %d), not %d, %.200q", what, f, len(got), got, err, len(want), want)
	}
}

// expectDurable checks what a crash leaves of a file at least.
func expectDurable(t *testing.T, what string, d *disk.Disk, f int, want string) {
	t.Helper()
	c := d.Copy()
	restart(c)
	expectFile(t, what+", after a crash", c, f, want)
}

// expectList checks Len, Get and All.
func expectList(t *testing.T, what string, j *journal.Journal, want ...string) {
	t.Helper()
	if got := j.All(); !slices.Equal(got, want) {
		t.Fatalf("%s: All: %d records, %.200q, not %d, %.200q", what, len(got), got, len(want), want)
	}
	if j.Len() != len(want) {
		t.Fatalf("%s: Len: %d, not %d", what, j.Len(), len(want))
	}
	for i, s := range want {
		if got := j.Get(i); got != s {
			t.Fatalf("%s: Get(%d): %.200q, not %.200q", what, i, got, s)
		}
	}
	for _, i := range []int{-1, -2, len(want), len(want) + 1, math.MinInt, math.MaxInt} {
		if got := j.Get(i); got != "" {
			t.Fatalf("%s: Get(%d): %.200q, not the empty string", what, i, got)
		}
	}
}

// TestExamples is about the chapter's examples.
func TestExamples(t *testing.T) {
	for s, want := range map[string]int{"": 0, "a": 97, "ab": 293} {
		if got := journal.Sum(s); got != want {
			t.Errorf("Sum(%q): %d, not %d", s, got, want)
		}
	}
	d := disk.New()
	j := open(t, d, 0)
	add(t, j, "ab", "")
	expectFile(t, "the second example", d, 0, "2:ab,293;0:,0;")
	d = diskWith(t, 0, "2:ab,293;1:a,98;")
	expectList(t, "the third example", open(t, d, 0), "ab")
	expectFile(t, "the third example", d, 0, "2:ab,293;")
}

// TestSum is about P3.1: bytes count by their positions, and the sum is taken modulo 2^31 - 1.
func TestSum(t *testing.T) {
	for _, c := range []struct {
		record string
		want   int
	}{
		{"\x00", 0},
		{zeros(5000), 0},
		{"\x01", 1},
		{"\xff", 255},
		{"\x00\x01", 2},
		{"ba", 292},
		{"é", 0xc3 + 2*0xa9},
		{"a\x00b", 97 + 3*98},
		{strings.Repeat("\xff", 4000), 2040510000}, // the greatest sum of 4000 bytes
		{strings.Repeat("\xff", 4104), 2147982300 - 2147483647},
	} {
		if got := journal.Sum(c.record); got != c.want {
			t.Errorf("Sum(%.20q), of %d bytes: %d, not %d", c.record, len(c.record), got, c.want)
		}
	}
	for _, sum := range []int{2147483646, 2147483647, 2147483648} {
		if got := journal.Sum(recordWithSum(t, sum)); got != sum%2147483647 {
			t.Errorf("Sum of a record with the sum %d: %d", sum, got)
		}
	}
	for _, n := range []int{20001, 100000, 1 << 20} {
		s := strings.Repeat("\xfe\xff", n)
		if want := form(s)[len(s)+len(strconv.Itoa(len(s)))+2:]; strconv.Itoa(journal.Sum(s))+";" != want {
			t.Errorf("Sum of %d bytes: %d, not %s", len(s), journal.Sum(s), want)
		}
	}
}

// recordWithSum returns a record whose bytes, each multiplied by its position, make a sum.
func recordWithSum(t *testing.T, sum int) string {
	t.Helper()
	b := make([]byte, 4200)
	for at := len(b); at > 0; at-- {
		x := min(sum/at, 255)
		b[at-1] = byte(x)
		sum -= x * at
	}
	if sum != 0 {
		t.Fatal("no such record")
	}
	return string(b)
}

// TestOpenNoFile is about P3.1: what is no file number is refused before the disk is asked.
func TestOpenNoFile(t *testing.T) {
	for _, f := range []int{-1, 16, 17, math.MinInt, math.MaxInt} {
		d := disk.New()
		d.Lose(1)
		d.Arm(1, nil)
		refuse(t, "no file number", d, f, api.ErrArg)
		if d.Down() {
			t.Errorf("the file %d: the disk was asked", f)
		}
		d.Arm(0, nil)
		expectErr(t, "a lost sync that is due still", d.Sync(0), api.ErrLost)
		d.Crash(nil)
		refuse(t, "no file number, and a machine that is down", d, f, api.ErrArg)
	}
}

// TestOpenEveryFile is about P3.1: each file number has a journal of its own.
func TestOpenEveryFile(t *testing.T) {
	d := disk.New()
	for f := range 16 {
		j := open(t, d, f)
		expectList(t, "a new file", j)
		add(t, j, "file", strconv.Itoa(f))
	}
	for f := range 16 {
		expectFile(t, "every file", d, f, forms("file", strconv.Itoa(f)))
		expectList(t, "every file", open(t, d, f), "file", strconv.Itoa(f))
	}
}

// TestOpenSyncs is about P3.1: what Open has read is durable, and other files are left alone.
func TestOpenSyncs(t *testing.T) {
	d := disk.New()
	expectErr(t, "Write", d.Write(3, 0, forms("a", "b")), api.OK)
	expectErr(t, "Write", d.Write(4, 0, forms("c")), api.OK)
	expectDurable(t, "before Open", d, 3, "")
	expectList(t, "Open", open(t, d, 3), "a", "b")
	expectDurable(t, "Open", d, 3, forms("a", "b"))
	expectDurable(t, "Open of another file", d, 4, "")
}

// TestOpenTruncates is about P3.1: what is cut off is gone for good.
func TestOpenTruncates(t *testing.T) {
	d := diskWith(t, 3, forms("a", "b")+"9:torn")
	j := open(t, d, 3)
	expectList(t, "a torn file", j, "a", "b")
	expectFile(t, "a torn file", d, 3, forms("a", "b"))
	expectDurable(t, "a torn file", d, 3, forms("a", "b"))
	add(t, j, "c")
	expectFile(t, "the next record", d, 3, forms("a", "b", "c"))
}

// TestOpenLost is about P3.1: if the sync is lost, nothing else is done.
func TestOpenLost(t *testing.T) {
	d := diskWith(t, 0, forms("a")+"torn")
	d.Lose(2)
	refuse(t, "a lost sync", d, 0, api.ErrLost)
	expectFile(t, "a lost sync", d, 0, forms("a")+"torn")
	refuse(t, "another lost sync", d, 0, api.ErrLost)
	expectList(t, "no more lost syncs", open(t, d, 0), "a")
}

// TestOpenDown is about P3.1: the errors of a machine that is down, or goes down at one of the calls.
func TestOpenDown(t *testing.T) {
	d := diskWith(t, 0, forms("a")+"torn")
	for n := 1; n <= 2; n++ {
		d.Arm(n, nil)
		refuse(t, "a crash at the sync, or at the truncate", d, 0, api.ErrDown)
		refuse(t, "a machine that is down", d, 0, api.ErrDown)
		d.Start()
		expectFile(t, "a crash at the sync, or at the truncate", d, 0, forms("a")+"torn")
	}
	d.Arm(3, nil)
	j := open(t, d, 0)
	expectErr(t, "the third call", j.Sync(), api.ErrDown)
}

// TestOpenOfWholeRecords is about P3.1: a file that is not longer than its records is not truncated.
func TestOpenOfWholeRecords(t *testing.T) {
	for _, s := range []string{"", forms(""), forms("a", "b")} {
		d := diskWith(t, 0, s)
		d.Arm(2, nil)
		j := open(t, d, 0)
		expectErr(t, "the second call", j.Sync(), api.ErrDown)
		d.Start()
		expectFile(t, "whole records", d, 0, s)
	}
}

// TestRecordsOfString is about P3.1: how far the records of a string reach.
func TestRecordsOfString(t *testing.T) {
	long := strings.Repeat("x", 20000)
	for _, c := range []struct {
		name, rest string // what stands after the records
		records    []string
	}{
		{"nothing", "", nil},
		{"one record", "", []string{"a"}},
		{"some records", "", []string{"", "a", "", "ab", "a,98;", forms("a", "b"), "\x00\xff", "é"}},
		{"the longest record", "", []string{"a", long, "b"}},
		{"a sum that was reduced", "", []string{strings.Repeat("\xff", 5000)}},
		{"a record of bytes 0", "", []string{zeros(100), "a"}},
		{"a record that is too long", form(long+"x") + form("b"), []string{"a"}},
		{"a record of bytes 0 that is too long", form(zeros(20001)), nil},
		{"a wrong sum", "1:a,98;" + form("b"), []string{"a"}},
		{"a wrong sum of the empty record", "0:,1;", []string{""}},
		{"the sum of other bytes", "2:ba,293;", nil},
		{"a sum that was not reduced", "4104:" + strings.Repeat("\xff", 4104) + ",2147982300;", nil},
		{"a sum that is 2^31 - 1", "4200:" + recordWithSum(t, 2147483647) + ",2147483647;", nil},
		{"a negative sum", "1:a,-97;", nil},
		{"a sum -0", "0:,-0;", nil},
		{"a sum with a leading zero", "1:a,097;", nil},
		{"a sum with a sign", "1:a,+97;", nil},
		{"a sum without digits", "0:,;", nil},
		{"a sum without its end", "1:a,97", nil},
		{"no sum", "1:a,", nil},
		{"no sum, and a record", "1:a," + form("b"), nil},
		{"no comma", "1:a97;", nil},
		{"another sign", "1:a;97;", nil},
		{"a length with a leading zero", "01:a,97;", nil},
		{"a length 00", "00:,0;", nil},
		{"a length with a sign", "+1:a,97;", nil},
		{"a negative length", "-1:a,97;", nil},
		{"a length -0", "-0:,0;", nil},
		{"no length", ":,0;", nil},
		{"a length that is too great", "3:a,97;", []string{"b"}},
		{"a length that is too small", "1:ab,293;", nil},
		{"the greatest length", "9223372036854775807:a,97;", nil},
		{"a length that is no int", "9223372036854775808:,0;", nil},
		{"a length modulo 2^64", "18446744073709551617:a,97;", nil},
		{"a space", " " + form("a"), nil},
		{"bytes 0", zeros(500), []string{"a"}},
		{"bytes 0, and a record", zeros(64) + form("b"), []string{"a"}},
		{"one byte", "1", []string{"a"}},
		{"a list", "1[1:a,]", nil},
		{"lost bytes in a record", "4:a\x00\x00d," + strconv.Itoa(97+2*98+3*99+4*100) + ";", nil},
		{"lost digits of a sum", "1:a,9\x00;", nil},
		{"lost digits of a length", "\x000:" + strings.Repeat("a", 10) + ",5335;", nil},
	} {
		whole := forms(c.records...)
		d := diskWith(t, 5, whole+c.rest)
		j := open(t, d, 5)
		expectList(t, c.name, j, c.records...)
		expectFile(t, c.name, d, 5, whole)
		add(t, j, "next")
		expectFile(t, c.name+", and the next record", d, 5, whole+form("next"))
	}
}

// TestOpenLongFile is about P3.1 and P3.2: a file may have more records than could be appended.
func TestOpenLongFile(t *testing.T) {
	record := zeros(20000)
	size := len(form(record))
	records := slices.Repeat([]string{record}, most/size)
	filler := most%size - len("0000:,0;")
	records = append(records, zeros(filler))
	s := forms(records...)
	if len(s) != most {
		t.Fatalf("the test's file has %d bytes", len(s))
	}
	d := diskWith(t, 0, s)
	j := open(t, d, 0)
	expectList(t, "a file of 2^24 bytes", j, records...)
	expectErr(t, "Append to a file of 2^24 bytes", j.Append(""), api.ErrFull)
	expectErr(t, "Append of what is too long, to a file of 2^24 bytes", j.Append(record+"x"), api.ErrRange)
	expectErr(t, "Sync of a file of 2^24 bytes", j.Sync(), api.OK)
	expectFile(t, "a file of 2^24 bytes", d, 0, s)
	d = diskWith(t, 0, s[:most-1])
	expectList(t, "a file of 2^24 - 1 bytes", open(t, d, 0), records[:len(records)-1]...)
}

// TestAppend is about P3.2: each record is written at the length of the list, and is not durable by that.
func TestAppend(t *testing.T) {
	d := diskWith(t, 2, forms("old"))
	j := open(t, d, 2)
	records := []string{"old"}
	for _, s := range []string{"", "a", "", form("a"), zeros(70), strings.Repeat("\xff", 20000), "é", "\x00"} {
		add(t, j, s)
		records = append(records, s)
		expectFile(t, "Append", d, 2, forms(records...))
		expectList(t, "Append", j, records...)
	}
	expectDurable(t, "Append", d, 2, forms("old"))
	for f := range 16 {
		if f != 2 {
			expectFile(t, "Append", d, f, "")
		}
	}
}

// TestAppendIsOneWrite is about P3.2: Append makes one call of the disk, and a refused one makes none.
func TestAppendIsOneWrite(t *testing.T) {
	d := disk.New()
	j := open(t, d, 0)
	d.Arm(3, nil)
	add(t, j, "a")
	for range 5 {
		expectErr(t, "a record that is too long", j.Append(zeros(20001)), api.ErrRange)
	}
	add(t, j, "b")
	expectErr(t, "the third call", j.Append("c"), api.ErrDown)
	expectList(t, "after the third call", j, "a", "b")
}

// TestAppendRange is about P3.2: a record has at most 20000 bytes, and one that has more changes nothing.
func TestAppendRange(t *testing.T) {
	d := disk.New()
	j := open(t, d, 0)
	for _, n := range []int{20001, 20002, 1 << 20, 1<<24 + 1} {
		expectErr(t, "a record that is too long", j.Append(zeros(n)), api.ErrRange)
		expectList(t, "a record that is too long", j)
		expectFile(t, "a record that is too long", d, 0, "")
	}
	add(t, j, zeros(20000), "a")
	expectErr(t, "Sync", j.Sync(), api.OK)
	expectFile(t, "the longest record", d, 0, forms(zeros(20000), "a"))
}

// full returns a journal in the file 0 of a disk whose list has so many bytes less than Max, and its records.
func full(t *testing.T, less int) (*disk.Disk, *journal.Journal, []string) {
	t.Helper()
	record := zeros(20000)
	size := len(form(record))
	left := journal.Max - less
	records := slices.Repeat([]string{record}, left/size)
	records = append(records, zeros(left%size-len("0000:,0;")))
	d := disk.New()
	j := open(t, d, 0)
	add(t, j, records...)
	if d.Size(0) != journal.Max-less {
		t.Fatalf("the test's file has %d bytes", d.Size(0))
	}
	return d, j, records
}

// TestAppendFull is about P3.2: the list has at most Max bytes with the new record, which else changes nothing.
func TestAppendFull(t *testing.T) {
	if journal.Max != 1048576 {
		t.Fatalf("Max is %d", journal.Max)
	}
	for less, longest := range []int{-1, -1, -1, -1, -1, 0, 1, 2} { // the longest record of bytes 0 for which there is room
		d, j, records := full(t, less)
		d.Lose(1)
		for n := longest + 1; n < longest+4; n++ {
			expectErr(t, "a record for which there is no room", j.Append(zeros(n)), api.ErrFull)
		}
		expectErr(t, "the longest record, and no room for it", j.Append(strings.Repeat("a", 20000)), api.ErrFull)
		expectErr(t, "a record that is too long, and no room for it", j.Append(zeros(20001)), api.ErrRange)
		expectFile(t, "a full journal", d, 0, forms(records...))
		if longest >= 0 {
			records = append(records, zeros(longest))
			add(t, j, zeros(longest))
			expectErr(t, "a full journal", j.Append(""), api.ErrFull)
		}
		expectList(t, "a full journal", j, records...)
		expectFile(t, "a full journal", d, 0, forms(records...))
		expectErr(t, "Sync of a full journal", j.Sync(), api.ErrLost)
		expectErr(t, "a full journal after an error", j.Append(""), api.ErrState)
	}
}

// TestFullCountsSums is about P3.2: the digits of the sum belong to the length.
func TestFullCountsSums(t *testing.T) {
	_, j, _ := full(t, 7)
	expectErr(t, "9 bytes", j.Append("\xff\xff"), api.ErrFull) // 2:..,765;
	expectErr(t, "8 bytes", j.Append("\x01\x05"), api.ErrFull) // 2:..,11;
	expectErr(t, "7 bytes", j.Append("\x01\x04"), api.OK)      // 2:..,9;
	expectErr(t, "nothing is left", j.Append(""), api.ErrFull)
}

// TestOpenFull is about P3.2: the length counts from the beginning of the file, whoever wrote the records.
func TestOpenFull(t *testing.T) {
	d, _, records := full(t, 5)
	j := open(t, d, 0)
	expectErr(t, "a record for which there is no room", j.Append("\x00"), api.ErrFull)
	add(t, j, "")
	expectList(t, "a full journal", open(t, d, 0), append(records, "")...)
}

// TestAppendDown is about P3.2 to P3.4: the error of a write, and all that follows it.
func TestAppendDown(t *testing.T) {
	for _, keep := range [][]int{nil, {1}} {
		d := diskWith(t, 0, forms("a"))
		j := open(t, d, 0)
		add(t, j, "b")
		d.Arm(1, keep)
		expectErr(t, "Append at a crash", j.Append("c"), api.ErrDown)
		expectFailed(t, j, "a", "b")
		d.Start()
		want := []string{"a"}
		if keep != nil { // the write was performed, though the list of the journal is without its record
			want = append(want, "b", "c")
		}
		expectList(t, "after the crash", open(t, d, 0), want...)
	}
	d := disk.New()
	j := open(t, d, 0)
	add(t, j, "a")
	d.Crash(nil)
	expectErr(t, "Append of a record that is too long, on a machine that is down", j.Append(zeros(20001)), api.ErrRange)
	expectErr(t, "Append on a machine that is down", j.Append("b"), api.ErrDown)
	expectFailed(t, j, "a")
}

// expectFailed checks a journal that has returned an error of the disk.
func expectFailed(t *testing.T, j *journal.Journal, want ...string) {
	t.Helper()
	for range 3 {
		expectErr(t, "Append after an error", j.Append("z"), api.ErrState)
		expectErr(t, "Append of a record that is too long, after an error", j.Append(zeros(20001)), api.ErrState)
		expectErr(t, "Sync after an error", j.Sync(), api.ErrState)
		expectList(t, "after an error", j, want...)
	}
}

// TestSync is about P3.3: after Sync all records are durable, and those of no other file.
func TestSync(t *testing.T) {
	for f := range 16 {
		d := disk.New()
		j, other := open(t, d, f), open(t, d, (f+1)%16)
		add(t, other, "other")
		add(t, j, "a", "", strings.Repeat("b", 1000))
		expectErr(t, "Sync", j.Sync(), api.OK)
		expectErr(t, "Sync", j.Sync(), api.OK)
		whole := forms("a", "", strings.Repeat("b", 1000))
		expectDurable(t, "Sync", d, f, whole)
		expectDurable(t, "Sync of another journal", d, (f+1)%16, "")
		add(t, j, "c")
		expectList(t, "Append after Sync", j, "a", "", strings.Repeat("b", 1000), "c")
		expectDurable(t, "Append after Sync", d, f, whole)
		restart(d)
		expectList(t, "after a crash", open(t, d, f), "a", "", strings.Repeat("b", 1000))
		expectList(t, "after a crash", open(t, d, (f+1)%16))
	}
}

// TestSyncLost is about P3.2 to P3.4: a lost sync is an error of the disk, and the next one is not tried.
func TestSyncLost(t *testing.T) {
	d := disk.New()
	j := open(t, d, 0)
	add(t, j, "a", "b")
	d.Lose(2)
	expectErr(t, "a lost sync", j.Sync(), api.ErrLost)
	expectFailed(t, j, "a", "b")
	expectErr(t, "the other lost sync", d.Sync(1), api.ErrLost)
	expectFailed(t, j, "a", "b")
	expectFile(t, "a lost sync", d, 0, forms("a", "b"))
	expectDurable(t, "a lost sync", d, 0, "")
	expectList(t, "the file is opened again", open(t, d, 0), "a", "b")
}

// TestSyncDown is about P3.3 and P3.4: the machine goes down at a sync, or is down.
func TestSyncDown(t *testing.T) {
	for _, armed := range []bool{false, true} {
		d := disk.New()
		j := open(t, d, 0)
		add(t, j, "a")
		if armed {
			d.Arm(1, nil)
		} else {
			d.Crash(nil)
		}
		expectErr(t, "Sync", j.Sync(), api.ErrDown)
		expectFailed(t, j, "a")
		d.Start()
		expectFile(t, "a crash before the sync", d, 0, "")
	}
}

// TestRefusedIsNoFailure is about P3.2 and P3.3: only errors of the disk end a journal.
func TestRefusedIsNoFailure(t *testing.T) {
	d, j, records := full(t, 5)
	expectErr(t, "a record that is too long", j.Append(zeros(20001)), api.ErrRange)
	expectErr(t, "a record for which there is no room", j.Append("a"), api.ErrFull)
	expectErr(t, "Sync after refusals", j.Sync(), api.OK)
	add(t, j, "")
	expectErr(t, "Sync after refusals", j.Sync(), api.OK)
	expectDurable(t, "Sync after refusals", d, 0, forms(append(records, "")...))
}

// TestAllIsACopy is about P3.4 and P3.5: who changes what All has returned changes nothing else.
func TestAllIsACopy(t *testing.T) {
	j := open(t, diskWith(t, 0, forms("a")), 0)
	if l := j.All(); len(append(l[:0], "x")) != 1 {
		t.Fatal("the test's list")
	}
	expectList(t, "a changed copy", j, "a")
	for i := range 20 { // lists of several lengths, because some have room for more elements and others have not
		old := j.All()
		add(t, j, strconv.Itoa(i))
		next, again := j.All(), j.All()
		_ = append(old, "x", "x")
		_ = append(next, "x")
		again[0] = "x"
		if next[0] != "a" || len(next) != i+2 || next[i+1] != strconv.Itoa(i) || len(old) != i+1 {
			t.Fatalf("a changed copy: %q", next)
		}
	}
	add(t, j, "last")
	if j.Len() != 22 || j.Get(0) != "a" || j.Get(20) != "19" || j.Get(21) != "last" {
		t.Errorf("a changed copy: %q", j.All())
	}
}

// TestTwoDisks is about R4: a journal depends on its own disk and file alone.
func TestTwoDisks(t *testing.T) {
	d := disk.New()
	j := open(t, d, 0)
	add(t, j, "a")
	k := open(t, d.Copy(), 0)
	add(t, k, "b")
	add(t, j, "c")
	expectList(t, "the disk", j, "a", "c")
	expectList(t, "its copy", k, "a", "b")
}
