package journal_test

import (
	"math/rand"
	"slices"
	"strings"
	"testing"

	"lingua/api"
	"lingua/disk"
	"lingua/journal"
)

// randomRecord returns a record of at most 4000 bytes: mostly a short one, of bytes of which some are 0, or digits and signs of forms, or as great as they can be.
func randomRecord(r *rand.Rand) string {
	n := r.Intn(90)
	switch r.Intn(12) {
	case 0:
		n = 0
	case 1:
		n = r.Intn(600)
	case 2:
		n = 3990 + r.Intn(11)
	}
	alphabet := []string{"\x00", "\x00\x00\x01", "0123456789:,;", "\xff", "", ""}[r.Intn(6)]
	b := make([]byte, n)
	for i := range b {
		b[i] = byte(r.Intn(256))
		if alphabet != "" {
			b[i] = alphabet[r.Intn(len(alphabet))]
		}
	}
	return string(b)
}

// expectTorn opens the file 0 after a crash, and checks that its records are a beginning of a list, with at least so many of them. It returns the journal.
func expectTorn(t *testing.T, d *disk.Disk, list []string, least int) *journal.Journal {
	t.Helper()
	j, err := journal.Open(d, 0)
	if err != api.OK {
		t.Fatalf("Open after a crash: error %d", err)
	}
	got := j.All()
	if len(got) < least || len(got) > len(list) {
		t.Fatalf("%d records after a crash, not %d to %d", len(got), least, len(list))
	}
	if !slices.Equal(got, list[:len(got)]) {
		t.Fatal("the records after a crash are not a beginning of the list")
	}
	expectFile(t, "Open after a crash", d, 0, forms(got...))
	return j
}

// keeps returns lists for crashes: all choices of at most 10 sectors, else some at random.
func keeps(r *rand.Rand, sectors int) [][]int {
	count := 100
	if sectors <= 10 {
		count = 1 << sectors
	}
	var l [][]int
	for chosen := range count {
		keep := make([]int, sectors)
		for i := range keep {
			keep[i] = chosen >> i & 1
			if sectors > 10 {
				keep[i] = min(r.Intn(8), 1)
			}
		}
		l = append(l, keep)
	}
	return l
}

// TestEveryTear is about P3.6: whichever sectors of the unsynced records survive, a beginning of the list is there, with all that was synced.
func TestEveryTear(t *testing.T) {
	for seed := range 150 {
		r := rand.New(rand.NewSource(int64(seed)))
		d := disk.New()
		j := open(t, d, 0)
		for range r.Intn(5) {
			add(t, j, randomRecord(r))
		}
		expectErr(t, "Sync", j.Sync(), api.OK)
		synced, from := j.Len(), d.Size(0)
		for range 1 + r.Intn(5) {
			add(t, j, randomRecord(r))
		}
		list, to := j.All(), d.Size(0)
		for _, keep := range keeps(r, (to+63)/64-from/64) {
			c := d.Copy()
			restart(c, keep...)
			expectTorn(t, c, list, synced)
		}
	}
}

// TestGreatestSum is about P3.6: of a record of 4000 bytes 255, whose sum is the greatest, and of one that is as long in all, no sector can be lost unnoticed.
func TestGreatestSum(t *testing.T) {
	for _, list := range [][]string{{strings.Repeat("\xff", 4000)}, {"a", strings.Repeat("\xff", 4000), "b"}} {
		d := disk.New()
		j := open(t, d, 0)
		add(t, j, list...)
		sectors := (d.Size(0) + 63) / 64
		for i := range sectors {
			keep := slices.Repeat([]int{1}, sectors)
			keep[i] = 0
			c := d.Copy()
			restart(c, keep...)
			if k := expectTorn(t, c, list, 0); k.Len() == len(list) {
				t.Fatalf("the sector %d was lost unnoticed", i)
			}
		}
		restart(d, 1)
		expectTorn(t, d, list, len(list))
	}
}

// life is a machine with a journal through several crashes, and what is known of it.
type life struct {
	d      *disk.Disk
	j      *journal.Journal
	list   []string // the records that may be there after a crash
	synced int      // how many of them must be
}

// step makes a call, and reports whether it was without an error of the disk.
func (l *life) step(t *testing.T, r *rand.Rand) bool {
	t.Helper()
	if r.Intn(4) == 0 {
		err := l.j.Sync()
		if err == api.OK {
			l.synced = l.j.Len()
		}
		return err == api.OK
	}
	s := randomRecord(r)
	err := l.j.Append(s)
	if err != api.ErrFull {
		l.list = append(l.list, s) // also with an error: the write was performed, perhaps in part
	}
	return err == api.OK || err == api.ErrFull
}

// revive starts the machine, and opens the file until this succeeds, through lost syncs and further crashes.
func (l *life) revive(t *testing.T, r *rand.Rand) {
	t.Helper()
	for {
		l.d.Start()
		if r.Intn(3) == 0 {
			l.d.Arm(1+r.Intn(2), randomKeep(r))
		}
		c := l.d.Copy()
		_, err := journal.Open(c, 0)
		if err == api.OK {
			break
		}
		if j, same := journal.Open(l.d, 0); j != nil || same != err || err != api.ErrLost && err != api.ErrDown {
			t.Fatalf("Open: error %d, of a copy %d", same, err)
		}
	}
	l.j = expectTorn(t, l.d, l.list, l.synced)
	l.list = l.j.All()
	l.synced = len(l.list)
}

func randomKeep(r *rand.Rand) []int {
	keep := make([]int, r.Intn(7))
	for i := range keep {
		keep[i] = r.Intn(5)
	}
	return keep
}

// TestLives is about P3.6: through any crashes and lost syncs, with bytes of other files pending as well.
func TestLives(t *testing.T) {
	for seed := range 300 {
		r := rand.New(rand.NewSource(int64(seed)))
		l := &life{d: disk.New()}
		l.revive(t, r)
		for range 12 {
			l.d.Arm(r.Intn(25), randomKeep(r))
			fine := true
			for steps := r.Intn(15); fine && steps > 0; steps-- {
				switch r.Intn(10) {
				case 0:
					l.d.Lose(r.Intn(3))
				case 1:
					l.d.Write(1+r.Intn(2), r.Intn(500), "bytes of another file")
				}
				fine = l.step(t, r)
			}
			expectList(t, "before a crash", l.j, l.list[:l.j.Len()]...)
			if r.Intn(4) > 0 {
				l.d.Crash(randomKeep(r))
			}
			l.revive(t, r)
		}
	}
}

// TestOpenAgain is about P3.7: opening a file again changes nothing.
func TestOpenAgain(t *testing.T) {
	for seed := range 100 {
		r := rand.New(rand.NewSource(int64(seed)))
		d := disk.New()
		j := open(t, d, 0)
		for range r.Intn(8) {
			add(t, j, randomRecord(r))
		}
		restart(d, randomKeep(r)...)
		list := open(t, d, 0).All()
		for range 3 {
			expectList(t, "opened again", open(t, d, 0), list...)
			expectFile(t, "opened again", d, 0, forms(list...))
			expectDurable(t, "opened again", d, 0, forms(list...))
		}
	}
}

// TestContinuedString is about P3.7: for every beginning of a string, its records are those records of the string that lie in it.
func TestContinuedString(t *testing.T) {
	for _, s := range []string{
		forms("", "a", form("b"), "1:a,97", zeros(70), strings.Repeat("\xff", 300), "1;2;3;"),
		forms("a", "bc") + "3:abc,1;" + forms("d"),
		forms("a", zeros(3)) + zeros(100) + forms("b"),
	} {
		all := open(t, diskWith(t, 0, s), 0).All()
		for end := range len(s) + 1 {
			inside, length := 0, 0
			for inside < len(all) && length+len(form(all[inside])) <= end {
				length += len(form(all[inside]))
				inside++
			}
			d := diskWith(t, 0, s[:end])
			expectList(t, "a beginning of a string", open(t, d, 0), all[:inside]...)
			expectFile(t, "a beginning of a string", d, 0, s[:length])
		}
	}
}
