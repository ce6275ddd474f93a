package names_test

import (
	"math"
	"math/rand"
	"slices"
	"strconv"
	"strings"
	"testing"

	"lingua/api"
	"lingua/names"
)

const most = 65536 // bytes of a text

// expectList checks a list: Len, Text, All, and that Of, asked of a copy, returns the name of each text.
func expectList(t *testing.T, what string, n *names.Names, want ...string) {
	t.Helper()
	if n.Len() != len(want) {
		t.Fatalf("%s: Len: %d, not %d", what, n.Len(), len(want))
	}
	if got := n.All(); !slices.Equal(got, want) {
		t.Fatalf("%s: All: %d texts, %.200q, not %d, %.200q", what, len(got), got, len(want), want)
	}
	c := n.Copy()
	for name, text := range want {
		expectText(t, what, n, name, text)
		expectName(t, what, c, text, name)
	}
	if c.Len() != len(want) {
		t.Fatalf("%s: %d texts after naming all of them again, not %d", what, c.Len(), len(want))
	}
	for _, name := range []int{-1, -2, len(want), len(want) + 1, math.MinInt, math.MaxInt} {
		if got, ok := n.Text(name); got != "" || ok {
			t.Fatalf("%s: Text(%d): %.200q, %v, not the empty string, false", what, name, got, ok)
		}
	}
}

// expectText checks Text of a name that exists.
func expectText(t *testing.T, what string, n *names.Names, name int, want string) {
	t.Helper()
	if got, ok := n.Text(name); got != want || !ok {
		t.Fatalf("%s: Text(%d): %d bytes, %.50q, %v, not %d, %.50q, true", what, name, len(got), got, ok, len(want), want)
	}
}

// expectName checks Of.
func expectName(t *testing.T, what string, n *names.Names, text string, want int) {
	t.Helper()
	if got := n.Of(text); got != want {
		t.Fatalf("%s: Of %d bytes, %.50q: %d, not %d", what, len(text), text, got, want)
	}
}

// open opens a list, where this must succeed.
func open(t *testing.T, what string, l ...string) *names.Names {
	t.Helper()
	n, err := names.Open(l)
	if n == nil || err != api.OK {
		t.Fatalf("%s: Open: %v, error %d", what, n, err)
	}
	return n
}

// refuse opens a list, where this must fail.
func refuse(t *testing.T, what string, l []string, want api.Errno) {
	t.Helper()
	if n, err := names.Open(l); n != nil || err != want {
		t.Errorf("%s: Open: %v, error %d, not nil, error %d", what, n, err, want)
	}
}

// alike returns different texts that are easily taken for one another: with the same length, bytes, beginning, end or sum, or equal for who folds, trims, or reads UTF-8.
func alike() []string {
	l := []string{"", "\x00", "\x00\x00", " ", "  ", "\n", "\r\n", "0", "00", "-0", "a", "A", "a ", " a", "a\x00", "\x00a", "ab", "ba", "aab", "aba", "baa", "ac", "bb", "ca"}
	l = append(l, "é", "e\u0301", "\xe9", "\xc3", "\xa9", "\xff", "\xfe", "\ufffd", "\xff\xfe", "ſ", "s", "S", "K", "\u212a", "k")
	for b := range 256 {
		if s := string([]byte{byte(b), byte(255 - b), 7}); !slices.Contains(l, s) {
			l = append(l, s)
		}
	}
	for i := range 30 {
		b := []byte(strings.Repeat("x", 30))
		b[i] = 'y'
		l = append(l, string(b))
	}
	for _, size := range []int{most, most - 1, most / 2} {
		long := strings.Repeat("z", size)
		l = append(l, long, long[1:]+"y", "y"+long[1:], long[:100]+"y"+long[101:])
	}
	return l
}

// TestExamples is about the chapter's examples.
func TestExamples(t *testing.T) {
	n := names.New()
	for _, c := range []struct {
		text string
		want int
	}{{"a", 0}, {"b", 1}, {"a", 0}, {"", 2}} {
		expectName(t, "the first example", n, c.text, c.want)
	}
	expectList(t, "the second example", n, "a", "b", "")
	refuse(t, "the third example", []string{"x", "y", "x"}, api.ErrTwice)
	expectName(t, "the fourth example", n, strings.Repeat("a", 65537), -1)
	expectList(t, "after the fourth example", n, "a", "b", "")
}

// TestNew is about P4.1: New.
func TestNew(t *testing.T) {
	n, other := names.New(), names.New()
	expectList(t, "New", n)
	expectName(t, "New", n, "a", 0)
	expectList(t, "another one", other)
	expectName(t, "another one", other, "b", 0)
	expectList(t, "New", n, "a")
}

// TestOpen is about P4.1: Open with OK.
func TestOpen(t *testing.T) {
	expectList(t, "Open of nil", open(t, "nil"))
	expectList(t, "Open of an empty list", open(t, "an empty list", []string{}...))
	for _, l := range [][]string{{""}, {"a"}, {"b", "a"}, {"b", "", "a"}, {"c", "a", "b", "aa"}, {strings.Repeat("\xff", most)}, alike()} {
		n := open(t, "a list", l...)
		expectList(t, "Open", n, l...)
		expectName(t, "a text after Open", n, "new", len(l))
		expectName(t, "the same again", n, "new", len(l))
		expectName(t, "the first text", n, l[0], 0)
	}
}

// TestOpenRefuses is about P4.1: the errors, of which ErrArg is the first one, wherever the elements stand.
func TestOpenRefuses(t *testing.T) {
	long := strings.Repeat("a", most+1)
	for _, size := range []int{most + 1, most + 2, 2 * most, 10 * most} {
		refuse(t, "one element that is no text", []string{strings.Repeat("a", size)}, api.ErrArg)
	}
	for _, c := range []struct {
		what string
		list []string
		want api.Errno
	}{
		{"no text, the first one", []string{long, "a", "b"}, api.ErrArg},
		{"no text, in between", []string{"a", long, "b"}, api.ErrArg},
		{"no text, the last one", []string{"a", "b", long}, api.ErrArg},
		{"two that are no texts", []string{long, long}, api.ErrArg},
		{"two equal ones", []string{"a", "a"}, api.ErrTwice},
		{"two empty ones", []string{"", ""}, api.ErrTwice},
		{"two equal ones, far apart", []string{"a", "b", "c", "a"}, api.ErrTwice},
		{"two equal ones, at the end", []string{"a", "b", "b"}, api.ErrTwice},
		{"three equal ones", []string{"a", "a", "a"}, api.ErrTwice},
		{"two equal ones of the greatest length", []string{long[1:], "a", long[:most]}, api.ErrTwice},
		{"two equal ones, then no text", []string{"a", "a", long}, api.ErrArg},
		{"no text, then two equal ones", []string{long, "a", "a"}, api.ErrArg},
		{"no text between two equal ones", []string{"a", long, "a"}, api.ErrArg},
	} {
		refuse(t, c.what, c.list, c.want)
	}
	l := alike()
	for i := range l {
		refuse(t, "a text again", append(slices.Clone(l), l[i]), api.ErrTwice)
		refuse(t, "a text again, and no text", append(slices.Clone(l), l[i], long), api.ErrArg)
	}
}

// TestOf is about P4.2: a new text is appended, a known one is not.
func TestOf(t *testing.T) {
	n := names.New()
	l := alike()
	for name, text := range l {
		expectName(t, "a new text", n, text, name)
		expectName(t, "the same again", n, text, name)
		expectName(t, "the same, built anew", n, string([]byte(text)), name)
		expectName(t, "the first text", n, l[0], 0)
		if n.Len() != name+1 {
			t.Fatalf("Len: %d after %d different texts", n.Len(), name+1)
		}
	}
	expectList(t, "Of", n, l...)
}

// TestOfNoText is about P4.2: what is no text gets no name, and changes nothing.
func TestOfNoText(t *testing.T) {
	for _, l := range [][]string{nil, {"a"}, {"", strings.Repeat("a", most), "b"}} {
		n := open(t, "a list", l...)
		for _, size := range []int{most + 1, most + 1, most + 2, 2 * most, 10 * most} {
			expectName(t, "no text", n, strings.Repeat("a", size), -1)
			expectList(t, "after no text", n, l...)
		}
		expectName(t, "a text of the greatest length", n, strings.Repeat("c", most), len(l))
		expectName(t, "one byte more", n, strings.Repeat("c", most+1), -1)
		expectList(t, "after both", n, append(slices.Clone(l), strings.Repeat("c", most))...)
	}
}

// TestAsking is about P4.3: Text, Len, All and Copy change nothing, also where there is no text.
func TestAsking(t *testing.T) {
	n := open(t, "a list", "b", "", "a")
	for range 3 {
		for _, name := range []int{math.MinInt, -1, 0, 1, 2, 3, math.MaxInt} {
			text, ok := n.Text(name)
			if ok != (name >= 0 && name < 3) || ok && text != []string{"b", "", "a"}[name] || !ok && text != "" {
				t.Errorf("Text(%d): %q, %v", name, text, ok)
			}
		}
		n.All()
		n.Copy()
		expectList(t, "after asking", n, "b", "", "a")
	}
	expectName(t, "a text after asking", n, "c", 3)
}

// TestCopy is about P4.3: a copy and its list do not touch each other.
func TestCopy(t *testing.T) {
	empty := names.New()
	expectName(t, "a copy of an empty list", empty.Copy(), "a", 0)
	expectList(t, "an empty list", empty)
	for size := range 20 {
		var l []string
		n := names.New()
		for i := range size {
			l = append(l, strconv.Itoa(i*i))
			expectName(t, "a list", n, l[i], i)
		}
		c := n.Copy()
		expectList(t, "a copy", c, l...)
		// Both get the same texts, in another order: if they shared a list or a map, one of them would see it.
		expectName(t, "the copy", c, "x", size)
		expectName(t, "the list", n, "y", size)
		expectName(t, "the copy", c, "y", size+1)
		expectName(t, "the list", n, "z", size+1)
		d := c.Copy()
		expectName(t, "the copy of the copy", d, "z", size+2)
		expectName(t, "the copy", c, "w", size+2)
		clipped := slices.Clip(l)
		expectList(t, "the list", n, append(clipped, "y", "z")...)
		expectList(t, "the copy", c, append(clipped, "x", "y", "w")...)
		expectList(t, "the copy of the copy", d, append(clipped, "x", "y", "z")...)
	}
}

// TestMemory is about P4.4: the argument of Open is neither changed nor kept, and what All returns belongs to the caller.
func TestMemory(t *testing.T) {
	l := []string{"a", "b", "", "behind"}
	n := open(t, "a list", l[:3]...)
	expectName(t, "a fourth text", n, "d", 3)
	if !slices.Equal(l, []string{"a", "b", "", "behind"}) {
		t.Errorf("Open changed its argument, or wrote behind it: %q", l)
	}
	l[0] = "z"
	expectList(t, "after a change of the argument", n, "a", "b", "", "d")

	first, second := n.All(), n.All()
	first[0] = "y"
	first = append(first[:2], "x")
	expectList(t, "after a change of the result", n, "a", "b", "", "d")
	if !slices.Equal(second, []string{"a", "b", "", "d"}) {
		t.Errorf("two results share memory: %q", second)
	}
	_ = append(second, "w")
	expectName(t, "a fifth text", n, "e", 4)
	expectName(t, "a sixth text", n, "f", 5)
	if !slices.Equal(second, []string{"a", "b", "", "d"}) || !slices.Equal(first, []string{"y", "b", "x"}) {
		t.Errorf("naming changed earlier results: %q, %q", first, second)
	}
	expectList(t, "after all of it", n, "a", "b", "", "d", "e", "f")

	bytes := []byte("text")
	expectName(t, "bytes", n, string(bytes), 6)
	bytes[0] = 'n'
	expectText(t, "after a change of the bytes", n, 6, "text")
	expectName(t, "changed bytes", n, string(bytes), 7)
}

// TestEveryShortText is about P4.5: names are equal exactly if their texts are, of all texts of up to six bytes of these four.
func TestEveryShortText(t *testing.T) {
	l := []string{""}
	for from, size := 0, 1; size <= 6; size++ {
		to := len(l)
		for _, s := range l[from:to] {
			for _, b := range []byte{0, 1, 'a', 255} {
				l = append(l, s+string([]byte{b}))
			}
		}
		from = to
	}
	n := names.New()
	for name, text := range l {
		expectName(t, "a new text", n, text, name)
	}
	for name := len(l) - 1; name >= 0; name-- {
		expectName(t, "a known text", n, l[name], name)
	}
	expectList(t, "all short texts", n, l...)
	expectList(t, "all short texts, opened", open(t, "all short texts", n.All()...), l...)
}

// TestStable is about P4.5: a text keeps its name, whatever is named later.
func TestStable(t *testing.T) {
	n := names.New()
	for name := range 30000 {
		expectName(t, "a new text", n, "text "+strconv.Itoa(name), name)
		for _, old := range []int{0, name / 3, name / 2, name} {
			expectText(t, "an old text", n, old, "text "+strconv.Itoa(old))
			expectName(t, "an old text", n, "text "+strconv.Itoa(old), old)
		}
	}
}

// model is a list of texts as the chapter describes it, which is searched from its beginning.
type model []string

func (m *model) of(text string) int {
	if len(text) > most {
		return -1
	}
	if name := slices.Index(*m, text); name >= 0 {
		return name
	}
	*m = append(*m, text)
	return len(*m) - 1
}

// randomText returns a string that was often there before, and seldom is no text.
func randomText(r *rand.Rand) string {
	switch r.Intn(40) {
	case 0:
		return strings.Repeat(string(rune('a'+r.Intn(2))), most-1+r.Intn(3))
	case 1:
		return ""
	}
	b := make([]byte, 1+r.Intn(3))
	for i := range b {
		b[i] = "\x00ab\xff"[r.Intn(4)]
	}
	return string(b)
}

// TestLives is about P4.5, with copies and opened lists in between: they behave like the model.
func TestLives(t *testing.T) {
	for seed := range 100 {
		r := rand.New(rand.NewSource(int64(seed)))
		lists, models := []*names.Names{names.New()}, []model{nil}
		for range 200 {
			i := r.Intn(len(lists))
			n, m := lists[i], &models[i]
			switch {
			case r.Intn(20) == 0 && len(lists) < 6:
				lists, models = append(lists, n.Copy()), append(models, slices.Clone(*m))
			case r.Intn(20) == 0 && len(lists) < 6:
				lists, models = append(lists, open(t, "All", n.All()...)), append(models, slices.Clone(*m))
			default:
				text := randomText(r)
				name := m.of(text)
				expectName(t, "a list", n, text, name)
				if name >= 0 {
					expectText(t, "Of and Text", n, name, text)
				}
			}
		}
		for i, n := range lists {
			expectList(t, "in the end", n, models[i]...)
		}
	}
}
