package words_test

import (
	"math"
	"math/big"
	"math/rand"
	"slices"
	"strconv"
	"strings"
	"testing"
	"unsafe"

	"lingua/words"
)

// same has the letters and digits of words, each followed by what it is in a word.
const same = "AaBbCcDdEeFfGgHhIiJjKkLlMmNnOoPpQqRrSsTtUuVvWwXxYyZz"

// inWord returns what a byte is in a word, and whether it is in one at all.
func inWord(c byte) (byte, bool) {
	if strings.IndexByte("0123456789", c) >= 0 {
		return c, true
	}
	i := strings.IndexByte(same, c)
	if i < 0 {
		return 0, false
	}
	return same[i|1], true
}

// allWords is the definition of the words of a text, byte by byte.
func allWords(s string) []string {
	var l []string
	open := false
	for i := range len(s) {
		c, ok := inWord(s[i])
		if ok && !open {
			l = append(l, "")
		}
		if ok {
			l[len(l)-1] += string([]byte{c})
		}
		open = ok
	}
	return l
}

// allParts is the definition of the parts of a text, byte by byte.
func allParts(s string, size, most int) []string {
	if size < 2 || most < 1 {
		return nil
	}
	places := new(big.Int).Mul(big.NewInt(int64(size)), big.NewInt(int64(most)))
	isCut := places.Cmp(big.NewInt(int64(len(s)))) < 0
	l := []string{""}
	for i := range len(s) {
		if len(l[len(l)-1]) == size {
			l = append(l, "")
		}
		if isCut && len(l) == most && len(l[most-1]) == size-1 {
			l[most-1] += "+"
			break
		}
		l[len(l)-1] += s[i : i+1]
	}
	return l
}

// theLine is the definition of the line of a text, byte by byte.
func theLine(s string, most int) string {
	n := 0
	for n < len(s) && n < most && s[n] != 10 {
		n++
	}
	return s[:n]
}

// allFound is the definition of the texts that have the one word of another text.
func allFound(texts []string, word string) []int {
	var l []int
	for i, s := range texts {
		for _, w := range allWords(s) {
			if wanted := allWords(word); len(wanted) == 1 && w == wanted[0] && !slices.Contains(l, i) {
				l = append(l, i)
			}
		}
	}
	return l
}

// theDigest is the definition of the digest.
func theDigest(texts []string) string {
	s := ""
	for i, text := range texts {
		if len(text) > 0 {
			s += strconv.Itoa(i) + ": " + theLine(text, 20) + string([]byte{10})
		}
	}
	return s
}

// expectWords expects that a text has the words of the definition.
func expectWords(t *testing.T, s string) {
	t.Helper()
	if got, want := words.Words(s), allWords(s); !slices.Equal(got, want) {
		t.Fatalf("Words(%q) = %q, want %q", s, got, want)
	}
}

// expectParts expects that a text has the parts of the definition, which are as P10.6 says.
func expectParts(t *testing.T, s string, size, most int) {
	t.Helper()
	got := words.Parts(s, size, most)
	if want := allParts(s, size, most); !slices.Equal(got, want) {
		t.Fatalf("Parts(%q, %d, %d) = %q, want %q", s, size, most, got, want)
	}
	if size < 2 || most < 1 {
		return
	}
	joined := strings.Join(got, "")
	begin, isCut := strings.CutSuffix(joined, "+")
	if joined != s && (!isCut || len(begin) >= len(s) || !strings.HasPrefix(s, begin)) {
		t.Fatalf("Parts(%q, %d, %d) = %q, which are neither the text nor its beginning and a +", s, size, most, got)
	}
	for i, part := range got {
		if len(part) > size || len(part) < size && i < len(got)-1 || part == "" && s != "" {
			t.Fatalf("Parts(%q, %d, %d) = %q, of which the part %d has %d bytes", s, size, most, got, i, len(part))
		}
	}
}

// expectLine expects that a text has the line of the definition.
func expectLine(t *testing.T, s string, most int) {
	t.Helper()
	if got, want := words.Line(s, most), theLine(s, most); got != want {
		t.Fatalf("Line(%q, %d) = %q, want %q", s, most, got, want)
	}
}

// expectFind expects that Find returns what the definition says.
func expectFind(t *testing.T, texts []string, word string) {
	t.Helper()
	if got, want := words.Find(texts, word), allFound(texts, word); !slices.Equal(got, want) {
		t.Fatalf("Find(%q, %q) = %v, want %v", texts, word, got, want)
	}
}

// expectDigest expects that the texts have the digest of the definition.
func expectDigest(t *testing.T, texts []string) {
	t.Helper()
	if got, want := words.Digest(texts), theDigest(texts); got != want {
		t.Fatalf("Digest(%q) = %q, want %q", texts, got, want)
	}
}

// randomText returns a text of at most most bytes, of few of which words are easily equal.
func randomText(r *rand.Rand, most int) string {
	b := make([]byte, r.Intn(most+1))
	for i := range b {
		b[i] = "abAB1 \n+,\xc3"[r.Intn(10)]
	}
	return string(b)
}

// randomTexts returns at most most texts.
func randomTexts(r *rand.Rand, most int) []string {
	l := make([]string, r.Intn(most+1))
	for i := range l {
		l[i] = randomText(r, 25)
	}
	return l
}

// shorts returns all texts with at most most of these bytes.
func shorts(bytes string, most int) []string {
	l := []string{""}
	begin := 0
	for range most {
		end := len(l)
		for ; begin < end; begin++ {
			for i := range len(bytes) {
				l = append(l, l[begin]+bytes[i:i+1])
			}
		}
	}
	return l
}

// TestExamples is about P10.1 to P10.4: the examples of the chapter.
func TestExamples(t *testing.T) {
	lists := []struct{ got, want []string }{
		{words.Words("Don't go, 2nd!"), []string{"don", "t", "go", "2nd"}},
		{words.Parts("abcdefg", 3, 4), []string{"abc", "def", "g"}},
		{words.Parts("abcdefg", 3, 2), []string{"abc", "de+"}},
		{words.Parts("", 3, 2), []string{""}},
	}
	for _, l := range lists {
		if !slices.Equal(l.got, l.want) {
			t.Errorf("got %q, want %q", l.got, l.want)
		}
	}
	texts := []struct{ got, want string }{
		{words.Line("ab\ncd", 9), "ab"},
		{words.Line("abc", 2), "ab"},
		{words.Digest([]string{"hi", "", "a\nb"}), "0: hi\n2: a\n"},
	}
	for _, s := range texts {
		if s.got != s.want {
			t.Errorf("got %q, want %q", s.got, s.want)
		}
	}
	if got := words.Find([]string{"a b", "B", "ab"}, "b"); !slices.Equal(got, []int{0, 1}) {
		t.Errorf("Find = %v, want 0 1", got)
	}
}

// TestEveryByte is about P10.1: what each byte is before, in and after a word, and as a text.
func TestEveryByte(t *testing.T) {
	letters := 0
	for i := range 256 {
		c := string([]byte{byte(i)})
		for _, s := range []string{c, c + c, "x" + c + "y", c + "xy", "xy" + c, "x" + c + c + "y", " " + c + " "} {
			expectWords(t, s)
			expectLine(t, s, 9)
			expectFind(t, []string{s, "xy", "x y", c}, c)
		}
		if got := words.Words("x" + c + "y"); len(got) == 1 {
			letters++
		}
		if got, want := words.Line("x"+c+"y", 9) == "x", i == 10; got != want {
			t.Errorf("the byte %d ends a line: %v", i, got)
		}
	}
	if letters != 62 {
		t.Errorf("%d bytes are in words, want 62", letters)
	}
}

// TestOtherLetters is about P10.1: letters that are not ASCII separate words, also if their small letters are ASCII, and if their bytes are cut.
func TestOtherLetters(t *testing.T) {
	for s, want := range map[string][]string{
		"x\u212ay":             {"x", "y"}, // a sign whose small letter is k
		"x\u0130y":             {"x", "y"}, // a sign whose small letter begins with i
		"\u017f":               {},         // a sign whose capital letter is S
		"caf\u00e9s":           {"caf", "s"},
		"\u00c4B":              {"b"},
		"\u0661\uff11\uff21":   {},
		"a\xc3b\xe2\x84c\xf0d": {"a", "b", "c", "d"},
		"\xffA\xfe1\x80":       {"a", "1"},
		"a\u00a0b\u2028C":      {"a", "b", "c"},
	} {
		if got := words.Words(s); !slices.Equal(got, want) {
			t.Errorf("Words(%q) = %q, want %q", s, got, want)
		}
	}
	if got := words.Find([]string{"\u212a", "k", "K"}, "k"); !slices.Equal(got, []int{1, 2}) {
		t.Errorf("Find of k = %v, want 1 2", got)
	}
	if got := words.Find([]string{"k", "\u212a"}, "\u212a"); len(got) != 0 {
		t.Errorf("Find of a sign that is no letter = %v, want nothing", got)
	}
}

// TestEveryWords is about P10.1, P10.3 and P10.8: all short texts.
func TestEveryWords(t *testing.T) {
	all := shorts("aBz09 \n\xc3", 4)
	for _, s := range all {
		expectWords(t, s)
		expectFind(t, []string{"a", s, "B 0", s, "zz"}, s)
		joined := strings.Join(words.Words(s), " ")
		for _, again := range []string{joined, strings.ToUpper(joined)} {
			if got, want := words.Words(again), words.Words(s); !slices.Equal(got, want) {
				t.Fatalf("Words(%q) = %q, want the words of %q", again, got, s)
			}
		}
	}
	for _, s := range shorts("aB ", 3) {
		for _, word := range shorts("Ab,", 3) {
			expectFind(t, []string{s, "", s + "!" + s}, word)
		}
	}
}

// TestEveryLine is about P10.1: the lines of all short texts, with all small numbers of bytes.
func TestEveryLine(t *testing.T) {
	for _, s := range shorts("a\n\r\xe2", 5) {
		for most := -2; most <= 7; most++ {
			expectLine(t, s, most)
		}
		for _, most := range []int{math.MinInt, math.MinInt + 1, -1 << 32, 1 << 32, math.MaxInt - 1, math.MaxInt} {
			expectLine(t, s, most)
		}
	}
}

// TestEveryParts is about P10.2 and P10.6: texts of all small lengths, with all small sizes and numbers.
func TestEveryParts(t *testing.T) {
	const text = "ab\n+\x00\xc3\xa9 Z+defghijkl"
	for n := range len(text) + 1 {
		for size := -2; size <= len(text)+2; size++ {
			for most := -2; most <= len(text)/2+3; most++ {
				expectParts(t, text[:n], size, most)
			}
		}
	}
}

// TestPartsEdges is about P10.2: sizes and numbers that are not allowed, the least ones, and those whose product is more than an int holds.
func TestPartsEdges(t *testing.T) {
	numbers := []int{math.MinInt, math.MinInt + 1, -1 << 32, -2, -1, 0, 1, 2, 3, 4, 6, 1 << 31, 1 << 32, 1<<32 + 1, 1 << 61, 1 << 62, 1<<62 + 1, 1<<63 - 1}
	for _, s := range []string{"", "a", "ab", "abc", "abcdefg", strings.Repeat("x", 100)} {
		for _, size := range numbers {
			for _, most := range numbers {
				expectParts(t, s, size, most)
			}
		}
	}
	for _, c := range []struct{ size, most int }{{1, 5}, {0, 5}, {-1, 5}, {2, 0}, {2, -1}, {math.MinInt, math.MinInt}} {
		if got := words.Parts("abc", c.size, c.most); len(got) != 0 {
			t.Errorf("Parts(abc, %d, %d) = %q, want nothing", c.size, c.most, got)
		}
	}
	if got := words.Parts("abc", 2, 1); !slices.Equal(got, []string{"a+"}) {
		t.Errorf("Parts(abc, 2, 1) = %q, want a+", got)
	}
}

// TestFind is about P10.3: what is and is not exactly one word, and texts that have it once, several times, and as a part of a longer one.
func TestFind(t *testing.T) {
	texts := []string{"go", "Go, GO!", "gone", "", "ago", "a-go-go", "go2", "2 go", "\xc3go\xa9", "g o"}
	for word, want := range map[string][]int{
		"go": {0, 1, 5, 7, 8}, "GO": {0, 1, 5, 7, 8}, " ,gO!\n": {0, 1, 5, 7, 8}, "\xc3go\xa9": {0, 1, 5, 7, 8},
		"go go": {}, "go,": {0, 1, 5, 7, 8}, "": {}, "!": {}, "\xc3": {}, "g": {9}, "o": {9}, "2": {7}, "go2": {6}, "go 2": {}, "gone": {2},
	} {
		if got := words.Find(texts, word); !slices.Equal(got, want) {
			t.Errorf("Find of %q = %v, want %v", word, got, want)
		}
		expectFind(t, texts, word)
	}
	expectFind(t, nil, "go")
	expectFind(t, []string{"", ""}, "")
}

// TestDigest is about P10.4: lines of 19 to 21 bytes, lines that are empty, and texts that are.
func TestDigest(t *testing.T) {
	const long = "12345678901234567890"
	texts := []string{"", long[1:], long, long + "x", long + "\nx", long[1:] + "\n\n", "\n", "\nabc", "", "\x00", "é"}
	want := "1: " + long[1:] + "\n2: " + long + "\n3: " + long + "\n4: " + long + "\n5: " + long[1:] + "\n6: \n7: \n9: \x00\n10: é\n"
	if got := words.Digest(texts); got != want {
		t.Errorf("Digest = %q, want %q", got, want)
	}
	expectDigest(t, texts)
	expectDigest(t, nil)
	expectDigest(t, []string{""})
	expectDigest(t, []string{"", "", "", "a: b"})
}

// TestRandom is about P10.1 to P10.4, P10.6 and P10.8: texts by chance, against the definitions.
func TestRandom(t *testing.T) {
	r := rand.New(rand.NewSource(1))
	found, cut := 0, 0
	for range 20000 {
		texts := randomTexts(r, 12)
		s := randomText(r, 60)
		word := randomText(r, 3)
		size, most := r.Intn(10), r.Intn(10)
		expectWords(t, s)
		expectParts(t, s, size, most)
		expectLine(t, s, r.Intn(20)-2)
		expectFind(t, texts, word)
		expectDigest(t, texts)
		if len(words.Find(texts, word)) > 1 {
			found++
		}
		if size > 1 && size*most < len(s) && most > 0 {
			cut++
		}
	}
	if found < 1000 || cut < 1000 {
		t.Errorf("met %d found words and %d cut texts", found, cut)
	}
}

// TestErased is about P10.7: a text that is replaced by the empty one is not found, leaves no line, and changes nothing else.
func TestErased(t *testing.T) {
	r := rand.New(rand.NewSource(2))
	found, lines := 0, 0
	for range 5000 {
		texts := append(randomTexts(r, 8), randomText(r, 25))
		k := r.Intn(len(texts))
		bare := slices.Clone(texts)
		bare[k] = ""
		for _, word := range []string{"a", "B", "ab", "1", "aa", ""} {
			before := words.Find(texts, word)
			if slices.Contains(before, k) {
				found++
			}
			rest := slices.DeleteFunc(before, func(i int) bool { return i == k })
			if got := words.Find(bare, word); !slices.Equal(got, rest) {
				t.Fatalf("Find(%q, %q) = %v, want %v, as of %q", bare, word, got, rest, texts)
			}
		}
		// Without the text k, the other lines are those of the texts before and after it; only the indices of these are others.
		after := make([]string, len(texts))
		copy(after[k+1:], texts[k+1:])
		if words.Digest(texts) != words.Digest(bare) {
			lines++
		}
		if got, want := words.Digest(bare), words.Digest(texts[:k])+words.Digest(after); got != want {
			t.Fatalf("Digest(%q) = %q, want %q", bare, got, want)
		}
	}
	if found < 1000 || lines < 1000 {
		t.Errorf("met %d texts that were found and %d that had a line", found, lines)
	}
}

// overlap reports whether two strings share bytes in memory.
func overlap(a, b string) bool {
	if a == "" || b == "" {
		return false
	}
	at, to := uintptr(unsafe.Pointer(unsafe.StringData(a))), uintptr(unsafe.Pointer(unsafe.StringData(b)))
	return at < to+uintptr(len(b)) && to < at+uintptr(len(a))
}

// expectApart expects that no string of a result shares memory with another one, nor with the arguments.
func expectApart(t *testing.T, result []string, args ...string) {
	t.Helper()
	for i, s := range result {
		for _, other := range slices.Concat(result[:i], args) {
			// All texts of one byte are kept once by Go itself.
			if len(s) > 1 && overlap(s, other) {
				t.Errorf("%q shares memory with %q", s, other)
			}
		}
	}
}

// TestMemory is about P10.5 and R3: results share no memory with arguments, and arguments and what follows them stay as they are.
func TestMemory(t *testing.T) {
	s := strings.Repeat("abc DEF def 12\n", 3)
	expectApart(t, words.Words(s), s)
	expectApart(t, words.Words("abcdef"), "abcdef")
	for _, size := range []int{2, 7, len(s), 1000} {
		expectApart(t, words.Parts(s, size, 1000), s)
		expectApart(t, words.Parts(s, size, 2), s)
	}
	expectApart(t, []string{words.Line(s, 100), words.Line(s, 2), words.Line(s, 1000)}, s)

	buffer := []string{"go", "", "Go\nx", "after", "that"}
	texts := buffer[:3]
	found, digest := words.Find(texts, "go"), words.Digest(texts)
	expectApart(t, []string{digest}, buffer...)
	if !slices.Equal(buffer, []string{"go", "", "Go\nx", "after", "that"}) {
		t.Errorf("the texts became %q", buffer)
	}
	found[0] = 7
	words.Words(s)[0] = "x"
	words.Parts(s, 2, 3)[0] = "x"
	for range 3 {
		expectWords(t, s)
		expectParts(t, s, 2, 3)
		expectFind(t, texts, "go")
		expectDigest(t, texts)
	}
	texts[0], texts[2] = "", ""
	if !slices.Equal(found, []int{7, 2}) || digest != "0: go\n2: Go\n" {
		t.Errorf("results became %v and %q", found, digest)
	}
}

// TestPure is about P10.5 and R4: calls at the same time do not meet.
func TestPure(t *testing.T) {
	done := make(chan bool)
	for i := range 4 {
		go func() {
			ok := true
			for range 200 {
				s := strings.Repeat("ab ", i+1)
				ok = ok && slices.Equal(words.Words(s), allWords(s)) && slices.Equal(words.Parts(s, 2, 9), allParts(s, 2, 9))
				ok = ok && words.Digest([]string{s}) == theDigest([]string{s}) && len(words.Find([]string{s, s}, "AB")) == 2
			}
			done <- ok
		}()
	}
	for range 4 {
		if !<-done {
			t.Error("a call at the same time returned something else")
		}
	}
}

// TestLarge is about P10.1 to P10.4 and R1: texts of millions of bytes, and many texts.
func TestLarge(t *testing.T) {
	const n = 1 << 20
	s := strings.Repeat("aB1 ", n)
	if l := words.Words(s); len(l) != n || l[0] != "ab1" || l[n-1] != "ab1" {
		t.Errorf("%d words, want %d", len(l), n)
	}
	if l := words.Words(strings.Repeat("A", n)); len(l) != 1 || l[0] != strings.Repeat("a", n) {
		t.Errorf("%d words of one long one", len(l))
	}
	if l := words.Parts(s, 2, math.MaxInt); len(l) != 2*n || strings.Join(l, "") != s {
		t.Errorf("%d parts of 2 bytes, want %d", len(l), 2*n)
	}
	if l := words.Parts(s, n, 3); len(l) != 3 || strings.Join(l, "") != s[:3*n-1]+"+" {
		t.Errorf("%d parts of %d bytes, want 3", len(l), n)
	}
	if got := words.Line(s, math.MaxInt); got != s {
		t.Errorf("the line has %d bytes", len(got))
	}
	texts := make([]string, n)
	for i := range texts {
		texts[i] = "x " + strconv.Itoa(i%1000)
	}
	if got := words.Find(texts, "X"); len(got) != n || got[n-1] != n-1 {
		t.Errorf("%d texts have the word, want %d", len(got), n)
	}
	if got := words.Find(texts, "999"); len(got) != n/1000 || got[0] != 999 {
		t.Errorf("%d texts have the word 999, want %d", len(got), n/1000)
	}
	if got := words.Digest(texts); strings.Count(got, "\n") != n || !strings.HasPrefix(got, "0: x 0\n1: x 1\n") {
		t.Errorf("the digest has %d lines, want %d", strings.Count(got, "\n"), n)
	}
}
