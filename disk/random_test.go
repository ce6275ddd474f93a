package disk_test

import (
	"math/rand"
	"slices"
	"strings"
	"testing"

	"lingua/api"
	"lingua/disk"
)

// model is the chapter once more, in the plainest words: every list and every string as it stands there.
type model struct {
	files, durable [16]string
	pending        [][2]int
	down           bool
	lost, calls    int
	keep           []int
}

func put(to string, at int, s string) string {
	if s == "" {
		return to
	}
	for len(to) < at {
		to += "\x00"
	}
	if at+len(s) < len(to) {
		return to[:at] + s + to[at+len(s):]
	}
	return to[:at] + s
}

// bytesOf returns the bytes of a sector of a string.
func bytesOf(s string, number int) string {
	return s[min(64*number, len(s)):min(64*number+64, len(s))]
}

func (m *model) crash(keep []int) {
	if m.down {
		return
	}
	for i, p := range m.pending {
		if len(keep) > 0 && keep[i%len(keep)]&1 == 1 {
			m.durable[p[0]] = put(m.durable[p[0]], 64*p[1], bytesOf(m.files[p[0]], p[1]))
		}
	}
	m.files = m.durable
	m.pending, m.calls, m.down = nil, 0, true
}

// call is a call that Arm counts: check returns its error, and do performs it.
func (m *model) call(f int, isWrite bool, check func() api.Errno, do func() api.Errno) api.Errno {
	if m.down {
		return api.ErrDown
	}
	err := api.ErrArg
	if f >= 0 && f < 16 {
		err = check()
	}
	m.calls--
	if m.calls == 0 {
		if isWrite && err == api.OK {
			do()
		}
		m.crash(m.keep)
		return api.ErrDown
	}
	if err != api.OK {
		return err
	}
	return do()
}

func (m *model) write(f, at int, s string) api.Errno {
	return m.call(f, true, func() api.Errno {
		if at < 0 {
			return api.ErrArg
		}
		if at+len(s) > most {
			return api.ErrFull
		}
		return api.OK
	}, func() api.Errno {
		m.files[f] = put(m.files[f], at, s)
		for i := range len(s) {
			if p := [2]int{f, (at + i) / 64}; !slices.Contains(m.pending, p) {
				m.pending = append(m.pending, p)
			}
		}
		return api.OK
	})
}

// settle ends that a file pends.
func (m *model) settle(f int) {
	m.durable[f] = m.files[f]
	m.pending = slices.DeleteFunc(m.pending, func(p [2]int) bool { return p[0] == f })
}

func (m *model) sync(f int) api.Errno {
	return m.call(f, false, func() api.Errno { return api.OK }, func() api.Errno {
		if m.lost > 0 {
			m.lost--
			return api.ErrLost
		}
		m.settle(f)
		return api.OK
	})
}

func (m *model) truncate(f, size int) api.Errno {
	return m.call(f, false, func() api.Errno {
		if size < 0 || size > len(m.files[f]) {
			return api.ErrArg
		}
		return api.OK
	}, func() api.Errno {
		m.files[f] = m.files[f][:size]
		m.settle(f)
		return api.OK
	})
}

func (m *model) read(f, at, size int) (string, api.Errno) {
	switch {
	case m.down:
		return "", api.ErrDown
	case f < 0 || f > 15 || at < 0 || size < 0:
		return "", api.ErrArg
	}
	s := m.files[f]
	return s[min(at, len(s)):min(at+size, len(s))], api.OK
}

// text returns bytes of which none is 0.
func text(r *rand.Rand, n int) string {
	b := make([]byte, n)
	for i := range b {
		b[i] = byte(1 + r.Intn(255))
	}
	return string(b)
}

// list returns a list for a crash.
func list(r *rand.Rand) []int {
	l := make([]int, r.Intn(6))
	for i := range l {
		l[i] = r.Intn(7) - 3
	}
	return l
}

// step makes one call of a disk and of the model, and compares the results.
func step(t *testing.T, r *rand.Rand, d *disk.Disk, m *model) {
	t.Helper()
	f := r.Intn(3)
	if r.Intn(30) == 0 {
		f = []int{-1, 16, 15}[r.Intn(3)]
	}
	at, keep := r.Intn(400)-3, list(r)
	what, got, want := "", api.OK, api.OK
	switch k := r.Intn(100); {
	case k < 45:
		s := text(r, r.Intn(5)*r.Intn(40))
		what, got, want = "Write", d.Write(f, at, s), m.write(f, at, s)
	case k < 55:
		what, got, want = "Sync", d.Sync(f), m.sync(f)
	case k < 63:
		size := r.Intn(max(d.Size(f), 0)+3) - 1
		what, got, want = "Truncate", d.Truncate(f, size), m.truncate(f, size)
	case k < 78:
		size := r.Intn(200) - 3
		s, err := d.Read(f, at, size)
		x, wanted := m.read(f, at, size)
		if s != x {
			t.Fatalf("Read: %q, not %q", s, x)
		}
		what, got, want = "Read", err, wanted
	case k < 82:
		n := r.Intn(5) - 2
		d.Lose(n)
		m.lost = max(n, 0)
	case k < 88:
		n := r.Intn(12) - 2
		d.Arm(n, keep)
		m.calls, m.keep = max(n, 0), keep
	case k < 93:
		d.Crash(keep)
		m.crash(keep)
	default:
		d.Start()
		m.down = false
	}
	if got != want {
		t.Fatalf("%s: error %d, not %d", what, got, want)
	}
}

// expectSame compares a disk to the model.
func expectSame(t *testing.T, d *disk.Disk, m *model) {
	t.Helper()
	if d.Down() != m.down {
		t.Fatalf("down: %v, not %v", d.Down(), m.down)
	}
	c := d.Copy()
	c.Start()
	for f := range 16 {
		if d.Size(f) != len(m.files[f]) {
			t.Fatalf("the file %d has %d bytes, not %d", f, d.Size(f), len(m.files[f]))
		}
		expectFile(t, "like the model", c, f, m.files[f])
	}
}

// TestModel is about P2.1 to P2.4: a disk, and each copy of it, does what the model does.
func TestModel(t *testing.T) {
	for seed := range 300 {
		r := rand.New(rand.NewSource(int64(seed)))
		d, m := disk.New(), &model{}
		for range 150 {
			step(t, r, d, m)
			expectSame(t, d, m)
			if r.Intn(10) == 0 {
				other, o := d, *m
				o.pending = slices.Clone(m.pending)
				d = d.Copy()
				step(t, r, other, &o)
				expectSame(t, other, &o)
				expectSame(t, d, m)
			}
		}
	}
}

// scene is a disk with pending sectors, with what is known of it.
type scene struct {
	d       *disk.Disk
	durable []string // of its two files
	now     []string
	pending [][2]int // in the order of the list
}

// newScene makes a disk at random, with bytes that are durable, bytes that pend, and bytes 0 between them.
func newScene(t *testing.T, r *rand.Rand) scene {
	t.Helper()
	s := scene{d: disk.New()}
	for f := range 2 {
		for range r.Intn(3) {
			write(t, s.d, f, r.Intn(200), text(r, r.Intn(100)))
		}
		sync(t, s.d, f)
		s.durable = append(s.durable, read(t, s.d, f))
	}
	for range r.Intn(4) {
		f, at, x := r.Intn(2), r.Intn(400), text(r, r.Intn(100))
		write(t, s.d, f, at, x)
		for i := range len(x) {
			if p := [2]int{f, (at + i) / 64}; !slices.Contains(s.pending, p) {
				s.pending = append(s.pending, p)
			}
		}
	}
	for f := range 2 {
		s.now = append(s.now, read(t, s.d, f))
	}
	return s
}

// TestEveryCrash is about P2.5 and P2.6: for every choice of pending sectors, a crash leaves these as the file had them, and nothing else.
func TestEveryCrash(t *testing.T) {
	for seed := range 60 {
		s := newScene(t, rand.New(rand.NewSource(int64(seed))))
		for chosen := range 1 << len(s.pending) {
			keep := make([]int, len(s.pending))
			for i := range keep {
				keep[i] = chosen >> i & 1
			}
			for f := range 2 {
				expectTorn(t, s, f, keep, after(t, s.d, f, keep...))
			}
		}
	}
}

// expectTorn checks a file of a scene after a crash.
func expectTorn(t *testing.T, s scene, f int, keep []int, got string) {
	t.Helper()
	durable, now := s.durable[f], s.now[f]
	if len(got) < len(durable) || len(got) > len(now) {
		t.Fatalf("%d bytes, durable were %d of %d", len(got), len(durable), len(now))
	}
	for i := range got {
		old := i < len(durable) && got[i] == durable[i]
		gap := i >= len(durable) && got[i] == 0
		if !old && !gap && got[i] != now[i] {
			t.Fatalf("the byte %d is from nowhere", i)
		}
	}
	end := len(durable)
	for number := range (len(now) + 63) / 64 {
		want := bytesOf(durable, number)
		if i := slices.Index(s.pending, [2]int{f, number}); i >= 0 && keep[i] == 1 {
			want = bytesOf(now, number)
			end = max(end, 64*number+len(want))
		}
		have := bytesOf(got, number)
		if !strings.HasPrefix(have, want) || strings.Trim(have[len(want):], "\x00") != "" {
			t.Fatalf("the sector %d of the file %d is %q, not %q", number, f, have, want)
		}
	}
	if len(got) != end {
		t.Fatalf("the file %d has %d bytes, not %d", f, len(got), end)
	}
}

// TestTruncateIsAtomic is about P2.5: whenever a crash comes, a Truncate has happened wholly or not at all.
func TestTruncateIsAtomic(t *testing.T) {
	for seed := range 100 {
		r := rand.New(rand.NewSource(int64(seed)))
		s := newScene(t, r)
		f := r.Intn(2)
		size := r.Intn(len(s.now[f]) + 1)
		keep := list(r)
		before := after(t, s.d, f, keep...)
		c := s.d.Copy()
		c.Arm(1, keep)
		expectErr(t, "Truncate at the crash", c.Truncate(f, size), api.ErrDown)
		c.Start()
		expectFile(t, "Truncate at the crash", c, f, before)
		expectErr(t, "Truncate", s.d.Truncate(f, size), api.OK)
		restart(s.d, keep...)
		expectFile(t, "Truncate before the crash", s.d, f, s.now[f][:size])
	}
}

// TestSyncedStays is about P2.6: what was synced and not written since is there after every crash.
func TestSyncedStays(t *testing.T) {
	for seed := range 200 {
		r := rand.New(rand.NewSource(int64(seed)))
		d := disk.New()
		want := text(r, 1000)
		write(t, d, 9, 0, want)
		sync(t, d, 9)
		for i := range 20 {
			// The bytes from 300 to 699 are not written, though their sectors may be.
			at := []int{r.Intn(200), 700 + r.Intn(300)}[r.Intn(2)]
			d.Write(9, at, text(r, r.Intn(100)))
			d.Write(r.Intn(3), at, text(r, r.Intn(100)))
			switch r.Intn(6) {
			case 0:
				restart(d, list(r)...)
			case 1:
				d.Arm(r.Intn(4), list(r))
			case 2:
				d.Lose(r.Intn(2))
			case 3:
				d.Sync(9)
			}
			d.Start()
			if s := read(t, d, 9); s[300:700] != want[300:700] {
				t.Fatalf("seed %d: after %d rounds synced bytes have changed", seed, i)
			}
		}
	}
}
