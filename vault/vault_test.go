package vault_test

import (
	"math"
	"math/rand"
	"slices"
	"strconv"
	"strings"
	"testing"

	"lingua/api"
	"lingua/vault"
)

// box is a box of a model.
type box struct {
	key  int
	text string
}

// model is a vault as the chapter describes it, whose boxes keep their texts for ever.
type model struct {
	destroyed []bool // of each key
	boxes     []box
}

func (m *model) copy() *model {
	return &model{slices.Clone(m.destroyed), slices.Clone(m.boxes)}
}

func (m *model) key() int {
	m.destroyed = append(m.destroyed, false)
	return len(m.destroyed) - 1
}

func (m *model) lock(key int, text string) (int, api.Errno) {
	switch {
	case key < 0 || key >= len(m.destroyed):
		return 0, api.ErrNone
	case m.destroyed[key]:
		return 0, api.ErrKey
	}
	m.boxes = append(m.boxes, box{key, text})
	return len(m.boxes) - 1, api.OK
}

func (m *model) open(key, box int) (string, api.Errno) {
	switch {
	case box < 0 || box >= len(m.boxes):
		return "", api.ErrNone
	case m.boxes[box].key != key, m.destroyed[key]:
		return "", api.ErrKey
	}
	return m.boxes[box].text, api.OK
}

func (m *model) destroy(key int) api.Errno {
	switch {
	case key < 0 || key >= len(m.destroyed):
		return api.ErrNone
	case m.destroyed[key]:
		return api.ErrTwice
	}
	m.destroyed[key] = true
	return api.OK
}

// numbers returns what may be given as the number of one of n things: all that exist, and some that do not.
func numbers(n int) []int {
	l := []int{math.MinInt, math.MinInt32, -2, -1, n, n + 1, math.MaxInt32, math.MaxInt}
	for i := range n {
		l = append(l, i)
	}
	return l
}

// expectVault checks the numbers of keys and boxes, and Open of every box with every key, there or not.
func expectVault(t *testing.T, what string, v *vault.Vault, m *model) {
	t.Helper()
	if v.Keys() != len(m.destroyed) || v.Boxes() != len(m.boxes) {
		t.Fatalf("%s: %d keys, %d boxes, not %d, %d", what, v.Keys(), v.Boxes(), len(m.destroyed), len(m.boxes))
	}
	for _, key := range numbers(len(m.destroyed)) {
		for _, box := range numbers(len(m.boxes)) {
			text, err := m.open(key, box)
			expectOpen(t, what, v, key, box, text, err)
		}
	}
}

// expectKey checks Key.
func expectKey(t *testing.T, what string, v *vault.Vault, want int) {
	t.Helper()
	if got := v.Key(); got != want {
		t.Fatalf("%s: Key: %d, not %d", what, got, want)
	}
}

// expectLock checks Lock.
func expectLock(t *testing.T, what string, v *vault.Vault, key int, text string, want int, wantErr api.Errno) {
	t.Helper()
	if got, err := v.Lock(key, text); got != want || err != wantErr {
		t.Fatalf("%s: Lock(%d, %.50q): %d, error %d, not %d, error %d", what, key, text, got, err, want, wantErr)
	}
}

// expectOpen checks Open.
func expectOpen(t *testing.T, what string, v *vault.Vault, key, box int, want string, wantErr api.Errno) {
	t.Helper()
	if got, err := v.Open(key, box); got != want || err != wantErr {
		t.Fatalf("%s: Open(%d, %d): %d bytes, %.50q, error %d, not %d, %.50q, error %d", what, key, box, len(got), got, err, len(want), want, wantErr)
	}
}

// expectDestroy checks Destroy.
func expectDestroy(t *testing.T, what string, v *vault.Vault, key int, want api.Errno) {
	t.Helper()
	if got := v.Destroy(key); got != want {
		t.Fatalf("%s: Destroy(%d): error %d, not %d", what, key, got, want)
	}
}

// texts returns strings of all sorts, some of them equal: any string can be locked, as often as one likes.
func texts() []string {
	l := []string{"", "", "a", "a", "b", "\x00", "a\x00", "\xff\xfe", "é", "e\u0301", "\n", " ", "0", strings.Repeat("x", api.MaxChunk), strings.Repeat("x", api.MaxChunk+1), strings.Repeat("\xff", 1<<20)}
	for b := range 256 {
		l = append(l, string([]byte{byte(b)}))
	}
	return l
}

// TestExamples is about the chapter's examples.
func TestExamples(t *testing.T) {
	v := vault.New()
	expectKey(t, "the first example", v, 0)
	expectKey(t, "the first example", v, 1)
	expectLock(t, "the first example", v, 1, "a", 0, api.OK)
	expectLock(t, "the first example", v, 2, "b", 0, api.ErrNone)
	expectOpen(t, "the second example", v, 1, 0, "a", api.OK)
	expectOpen(t, "the second example", v, 0, 0, "", api.ErrKey)
	expectOpen(t, "the second example", v, 1, 1, "", api.ErrNone)
	expectDestroy(t, "the third example", v, 1, api.OK)
	expectOpen(t, "the third example", v, 1, 0, "", api.ErrKey)
	expectLock(t, "the third example", v, 1, "c", 0, api.ErrKey)
	expectDestroy(t, "the third example", v, 1, api.ErrTwice)
	expectVault(t, "after the examples", v, &model{[]bool{false, true}, []box{{1, "a"}}})
}

// TestNew is about P5.1: New, and that two new vaults have nothing in common.
func TestNew(t *testing.T) {
	v, other := vault.New(), vault.New()
	expectVault(t, "New", v, &model{})
	expectKey(t, "New", v, 0)
	expectLock(t, "New", v, 0, "a", 0, api.OK)
	expectVault(t, "another one", other, &model{})
	expectVault(t, "New", v, &model{[]bool{false}, []box{{0, "a"}}})
	expectVault(t, "a third one", vault.New(), &model{})
}

// TestKey is about P5.1: keys are numbered from 0 on, whatever else happens, and every one of them is good.
func TestKey(t *testing.T) {
	v, m := vault.New(), &model{}
	for key := range 30 {
		expectKey(t, "a new key", v, m.key())
		expectVault(t, "after a new key", v, m)
		m.lock(key, "text")
		expectLock(t, "a new key", v, key, "text", key, api.OK)
		expectVault(t, "after a box", v, m)
		if key%3 == 2 {
			m.destroy(key - 1)
			expectDestroy(t, "an older key", v, key-1, api.OK)
		}
		expectVault(t, "after all of it", v, m)
	}
}

// TestLock is about P5.2 and P5.3: every string can be locked, and is what Open returns.
func TestLock(t *testing.T) {
	v, m := vault.New(), &model{}
	for key := range 3 {
		expectKey(t, "a vault", v, key)
		m.key()
	}
	for i, text := range texts() {
		m.lock(i%3, text)
		expectLock(t, "a text", v, i%3, text, i, api.OK)
		expectOpen(t, "its key", v, i%3, i, text, api.OK)
		expectOpen(t, "another key", v, (i+1)%3, i, "", api.ErrKey)
	}
	expectVault(t, "after all texts", v, m)
}

// TestLockRefuses is about P5.2: without a key, or with a destroyed one, nothing changes.
func TestLockRefuses(t *testing.T) {
	v, m := vault.New(), &model{}
	for _, key := range numbers(0) {
		expectLock(t, "a vault without keys", v, key, "a", 0, api.ErrNone)
	}
	expectVault(t, "a vault without keys", v, m)
	for range 4 {
		expectKey(t, "a vault", v, m.key())
	}
	for key := range 4 {
		m.lock(key, "a")
		expectLock(t, "a vault", v, key, "a", key, api.OK)
	}
	for _, key := range []int{0, 2, 3} {
		m.destroy(key)
		expectDestroy(t, "a vault", v, key, api.OK)
		for _, text := range []string{"", "a", "b"} {
			for _, missing := range []int{math.MinInt, -1, 4, 5, math.MaxInt} {
				expectLock(t, "no such key", v, missing, text, 0, api.ErrNone)
			}
			expectLock(t, "a destroyed key", v, key, text, 0, api.ErrKey)
			expectLock(t, "the first destroyed key", v, 0, text, 0, api.ErrKey)
		}
		expectVault(t, "after what was refused", v, m)
	}
	expectLock(t, "the next box", v, 1, "b", 4, api.OK)
	m.lock(1, "b")
	expectVault(t, "after the next box", v, m)
	expectKey(t, "the next key", v, 4)
}

// TestOpenRefuses is about P5.3: the errors, of which ErrNone is the first one, with whatever key.
func TestOpenRefuses(t *testing.T) {
	v := vault.New()
	for _, key := range numbers(1) {
		for _, box := range numbers(1) {
			expectOpen(t, "a new vault", v, key, box, "", api.ErrNone)
		}
	}
	expectKey(t, "a vault", v, 0)
	expectKey(t, "a vault", v, 1)
	for _, key := range numbers(2) {
		expectOpen(t, "a vault without boxes", v, key, 0, "", api.ErrNone)
	}
	expectLock(t, "a vault", v, 0, "a", 0, api.OK)
	expectLock(t, "a vault", v, 1, "b", 1, api.OK)
	expectDestroy(t, "a vault", v, 1, api.OK)
	for _, key := range numbers(2) {
		for _, box := range []int{math.MinInt, -1, 2, 3, math.MaxInt} {
			expectOpen(t, "no such box", v, key, box, "", api.ErrNone)
		}
		expectOpen(t, "a box of a destroyed key", v, key, 1, "", api.ErrKey)
		if key != 0 {
			expectOpen(t, "a key of another box, or none", v, key, 0, "", api.ErrKey)
		}
	}
	expectOpen(t, "its key", v, 0, 0, "a", api.OK)
}

// TestDestroy is about P5.4: a key is destroyed once, for ever, and no other key with it.
func TestDestroy(t *testing.T) {
	v, m := vault.New(), &model{}
	for _, key := range numbers(0) {
		expectDestroy(t, "a vault without keys", v, key, api.ErrNone)
	}
	expectVault(t, "a vault without keys", v, m)
	for key := range 6 {
		expectKey(t, "a vault", v, m.key())
		for range key % 3 {
			m.lock(key, "a")
			expectLock(t, "a vault", v, key, "a", len(m.boxes)-1, api.OK)
		}
	}
	for _, key := range []int{3, 5, 0, 4, 2, 1} {
		m.destroy(key)
		expectDestroy(t, "a good key", v, key, api.OK)
		expectVault(t, "after a destroyed key", v, m)
		for range 2 {
			expectDestroy(t, "a destroyed key", v, key, api.ErrTwice)
		}
		for _, missing := range []int{math.MinInt, -1, 6, 7, math.MaxInt} {
			expectDestroy(t, "no such key", v, missing, api.ErrNone)
		}
		expectVault(t, "after what was refused", v, m)
	}
	expectKey(t, "a new key", v, m.key())
	expectVault(t, "after a new key", v, m)
	expectLock(t, "a new key", v, 6, "b", 6, api.OK)
	m.lock(6, "b")
	expectVault(t, "after a box of the new key", v, m)
}

// TestOften is about P5.7: a box is opened as often as one likes, and never again after its key is destroyed.
func TestOften(t *testing.T) {
	v := vault.New()
	for key := range 3 {
		expectKey(t, "a vault", v, key)
		expectLock(t, "a vault", v, key, "text "+strconv.Itoa(key), key, api.OK)
	}
	for range 1000 {
		for key := range 3 {
			expectOpen(t, "its key", v, key, key, "text "+strconv.Itoa(key), api.OK)
			expectOpen(t, "the next key", v, (key+1)%3, key, "", api.ErrKey)
		}
	}
	expectDestroy(t, "a vault", v, 1, api.OK)
	for i := range 1000 {
		expectOpen(t, "a destroyed key", v, 1, 1, "", api.ErrKey)
		expectOpen(t, "a good key", v, 2, 2, "text 2", api.OK)
		expectKey(t, "new keys", v, i+3)
		expectLock(t, "new boxes", v, i+3, "new", i+3, api.OK)
		expectOpen(t, "a new key", v, i+3, 1, "", api.ErrKey)
	}
}

// TestAsking is about R2 and P5.7: Open, Keys, Boxes and Copy change nothing.
func TestAsking(t *testing.T) {
	v, m := vault.New(), &model{}
	for key := range 3 {
		expectKey(t, "a vault", v, m.key())
		m.lock(key, "a")
		expectLock(t, "a vault", v, key, "a", key, api.OK)
	}
	m.destroy(1)
	expectDestroy(t, "a vault", v, 1, api.OK)
	for range 3 {
		v.Copy()
		expectVault(t, "after asking", v, m)
	}
	expectLock(t, "after asking", v, 2, "b", 3, api.OK)
}

// TestCopy is about P5.5 and P5.8: a copy and its vault do not touch each other.
func TestCopy(t *testing.T) {
	empty := vault.New()
	expectKey(t, "a copy of a new vault", empty.Copy(), 0)
	expectVault(t, "a new vault", empty, &model{})
	for size := range 20 {
		v, m := vault.New(), &model{}
		for range 3 {
			expectKey(t, "a vault", v, m.key())
		}
		for i := range size {
			m.lock(i%2, strconv.Itoa(i))
			expectLock(t, "a vault", v, i%2, strconv.Itoa(i), i, api.OK)
		}
		c, mc := v.Copy(), m.copy()
		expectVault(t, "a copy", c, mc)
		// Both get other texts in boxes of the same key: if they shared a list, one of them would see it.
		for i := range 3 {
			mc.lock(i%2, "x")
			expectLock(t, "the copy", c, i%2, "x", size+i, api.OK)
			m.lock(i%2, "y")
			expectLock(t, "the vault", v, i%2, "y", size+i, api.OK)
		}
		d, md := c.Copy(), mc.copy()
		m.destroy(0)
		expectDestroy(t, "the vault", v, 0, api.OK)
		mc.destroy(1)
		expectDestroy(t, "the copy", c, 1, api.OK)
		expectKey(t, "the vault", v, m.key())
		expectKey(t, "the copy", c, mc.key())
		expectLock(t, "the copy", c, 3, "z", size+3, api.OK)
		mc.lock(3, "z")
		expectVault(t, "the vault", v, m)
		expectVault(t, "the copy", c, mc)
		expectVault(t, "the copy of the copy", d, md)
		md.destroy(2)
		expectDestroy(t, "the copy of the copy", d, 2, api.OK)
		expectLock(t, "the vault", v, 2, "w", size+3, api.OK)
	}
}

// TestMemory is about R3: what was locked does not change with the bytes from which it was made.
func TestMemory(t *testing.T) {
	v := vault.New()
	expectKey(t, "a vault", v, 0)
	bytes := []byte("text")
	expectLock(t, "bytes", v, 0, string(bytes), 0, api.OK)
	bytes[0] = 'n'
	expectOpen(t, "after a change of the bytes", v, 0, 0, "text", api.OK)
}

// TestMany is about P5.2 to P5.4, with so many keys and boxes that a search of all boxes at each call would not end in time.
func TestMany(t *testing.T) {
	const many = 100000
	v := vault.New()
	for i := range many {
		expectKey(t, "many keys", v, i)
		expectLock(t, "many boxes", v, i, "a", 2*i, api.OK)
		expectLock(t, "many boxes", v, i/2, "b", 2*i+1, api.OK)
	}
	for i := range many {
		expectOpen(t, "many boxes", v, i, 2*i, "a", api.OK)
		expectDestroy(t, "many keys", v, i, api.OK)
		expectOpen(t, "many boxes", v, i, 2*i, "", api.ErrKey)
		expectDestroy(t, "many keys", v, i, api.ErrTwice)
	}
}

// call is a call of a vault: one of the kinds below, with its arguments.
type call struct {
	kind, key, box int
	text           string
}

const (
	keyCall = iota
	lockCall
	openCall
	destroyCall
	kinds
)

// result is what a call returns.
type result struct {
	number int
	text   string
	err    api.Errno
}

// run calls a vault.
func run(v *vault.Vault, c call) result {
	var r result
	switch c.kind {
	case keyCall:
		r.number = v.Key()
	case lockCall:
		r.number, r.err = v.Lock(c.key, c.text)
	case openCall:
		r.text, r.err = v.Open(c.key, c.box)
	case destroyCall:
		r.err = v.Destroy(c.key)
	}
	return r
}

// runModel calls a model.
func runModel(m *model, c call) result {
	var r result
	switch c.kind {
	case keyCall:
		r.number = m.key()
	case lockCall:
		r.number, r.err = m.lock(c.key, c.text)
	case openCall:
		r.text, r.err = m.open(c.key, c.box)
	case destroyCall:
		r.err = m.destroy(c.key)
	}
	return r
}

// TestEveryShortLife is about all promises: every list of up to six calls that change something, each followed by every question.
func TestEveryShortLife(t *testing.T) {
	calls := []call{{kind: keyCall}, {kind: lockCall, key: 0, text: "a"}, {kind: lockCall, key: 1, text: "b"}, {kind: lockCall, key: 1, text: ""}, {kind: destroyCall, key: 0}, {kind: destroyCall, key: 1}}
	var live func(v *vault.Vault, m *model, left int)
	live = func(v *vault.Vault, m *model, left int) {
		expectVault(t, "a short life", v, m)
		if left == 0 {
			return
		}
		for _, c := range calls {
			nextVault, nextModel := v.Copy(), m.copy()
			if got, want := run(nextVault, c), runModel(nextModel, c); got != want {
				t.Fatalf("%v: %v, not %v", c, got, want)
			}
			live(nextVault, nextModel, left-1)
		}
	}
	live(vault.New(), &model{}, 6)
}

// randomCall returns a call whose numbers mostly exist.
func randomCall(r *rand.Rand, m *model) call {
	return call{
		kind: r.Intn(kinds),
		key:  r.Intn(len(m.destroyed)+3) - 1,
		box:  r.Intn(len(m.boxes)+3) - 1,
		text: strconv.Itoa(r.Intn(1000)),
	}
}

// TestLives is about all promises, with copies in between: vaults behave like the model.
func TestLives(t *testing.T) {
	for seed := range 200 {
		r := rand.New(rand.NewSource(int64(seed)))
		vaults, models := []*vault.Vault{vault.New()}, []*model{{}}
		for range 300 {
			i := r.Intn(len(vaults))
			if r.Intn(20) == 0 && len(vaults) < 6 {
				vaults, models = append(vaults, vaults[i].Copy()), append(models, models[i].copy())
			}
			c := randomCall(r, models[i])
			if got, want := run(vaults[i], c), runModel(models[i], c); got != want {
				t.Fatalf("seed %d: %v: %v, not %v", seed, c, got, want)
			}
		}
		for i, v := range vaults {
			expectVault(t, "in the end", v, models[i])
		}
	}
}

// TestTextsAreHidden is about P5.6: with other texts, the same calls have the same numbers and errors.
func TestTextsAreHidden(t *testing.T) {
	others := []func(i int, text string) string{
		func(i int, text string) string { return "" },
		func(i int, text string) string { return "same" },
		func(i int, text string) string { return strings.Repeat("\xff", i*i) },
		func(i int, text string) string { return text + "\x00" },
	}
	for seed := range 100 {
		for _, other := range others {
			r := rand.New(rand.NewSource(int64(seed)))
			v, w, m := vault.New(), vault.New(), &model{}
			for i := range 200 {
				c := randomCall(r, m)
				runModel(m, c)
				changed := c
				changed.text = other(i, c.text)
				a, b := run(v, c), run(w, changed)
				if a.number != b.number || a.err != b.err || a.err != api.OK && (a.text != "" || b.text != "") {
					t.Fatalf("seed %d: %v: %v, and with other texts %v", seed, c, a, b)
				}
				if v.Keys() != w.Keys() || v.Boxes() != w.Boxes() {
					t.Fatalf("seed %d: %v: other numbers of keys or boxes with other texts", seed, c)
				}
			}
		}
	}
}
